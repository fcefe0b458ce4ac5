/-
  WalKeeps: 'may' behind a cut. By an AI agent.
-/
import Derived.Test.YtkafkdlgflkjgaaGreatBWlKpSt
import Derived.Test.YtkafkdlgflkjgaaGreatBWlAre
import Derived.Test.YtkafkdlgflkjgaaGreatBScTxs
import Derived.Test.YtkafkdlgflkjgaaGreatBWlKnR
import Derived.Test.YtkafkdlgflkjgaaGreatBWlMuch
import Derived.Test.YtkafkdlgflkjgaaGreatBByCalls
import Derived.Deep.RegionHeld3
namespace Go.Proofs.YtkafkdlgflkjgaaGreat
open Go.RowKit Go.Maps Crc

theorem KRel.pts {w wn : World} {T0 : List Tx} {u : Value} {l : List Pd} (h : KRel w T0 u l) (c : Chg [] w wn) (pw : PoolW 3 wn 105 (listsOf T0)) (pd : Pool wn (dataOf T0)) (hg : Sc.Good l) {t : List Pv} (ht : dOf t = l) :
 ∃ qs, Pts wn u qs ∧ t.length = qs.length ∧ ∀ (i : Nat) (p q : PtD), (t.map toPt)[i]? = some p → qs[i]? = some q → p.alike q := by
 rcases h with h | ⟨t0, hm, rfl, rfl⟩
 ·obtain ⟨qs, Q1, Q2, Q3⟩ := h.chg c
  obtain ⟨a, b⟩ := pts_alike Q2 Q3 ht
  exact ⟨qs, Q1, a, b⟩
 ·have hl : t0.2.length ≤ 1023 := by have := hg.2.1; unfold dOf at this; rw [List.length_map] at this; exact this
  refine ⟨t0.2.map toPt, pts_of2 (pw.row (t0.1, t0.2.map pvSlot) (List.mem_map_of_mem (f := fun t : Tx => (t.1, t.2.map pvSlot)) hm)) (fun p hp => pd.row (pvRow p) (List.mem_flatMap.2 ⟨t0, hm, List.mem_map_of_mem hp⟩)) (by omega) (fun p hp => by rw [(hg.2.2 p.1 (List.mem_map_of_mem hp)).2.2.1]; decide), ?_, alike_of ht⟩
  have := congrArg List.length ht
  unfold dOf at this
  simpa using this

theorem KRel.one {w wn : World} {T0 : List Tx} {u : Value} {l : List Pd} (h : KRel w T0 u l) (pw : PoolW 3 wn 105 (listsOf T0)) : ∃ o n c, u = .slice o n c := by
 rcases h with ⟨qs, Q1, _, _⟩ | ⟨t0, hm, rfl, rfl⟩
 ·obtain ⟨o, c, h⟩ := Q1.slice
  exact ⟨o, _, c, h⟩
 ·obtain ⟨o, c, h⟩ := (pw.row (t0.1, t0.2.map pvSlot) (List.mem_map_of_mem (f := fun t : Tx => (t.1, t.2.map pvSlot)) hm)).slice
  exact ⟨o, _, c, h⟩

theorem kp_are {w w0 wn : World} {ts : List Thing} {T T0 : List Tx} {base M Q : Nat} {vals more : List Value} {L : List (List Pd)} {lo so : Option Addr} {lc sc : Nat} {sr : Int}
 (H : Side w0 wn (wideT 2 92 (.slice lo Q lc) (txSlots base T) :: poolWT 3 105 (listsOf T) :: poolT (dataOf T) :: poolWT 3 105 (listsOf T0) :: poolT (dataOf T0) :: ts)) (CW : Chg [] w wn)
 (hQ : Q = T.length) (hpre : found T = L.take Q) (hgood : ∀ l ∈ found T, Sc.Good l) (rel : ∀ (i : Nat) (u : Value) (l : List Pd), vals[i]? = some u → L[i]? = some l → KRel w T0 u l) (hq : Q ≤ vals.length) (hQ2 : Q ≤ 100000) (hsr : sr ≤ Q) (hb : base ≤ 1000000)
 (hM : M = vals.length + more.length) (own : wn.ownsRow 0 58 1 (.slice so M sc) M (vals ++ more)) :
 Calls Tryz.prog 45 #[.slice lo Q lc, .slice so M sc, .int .i64 sr] wn fun e w' => e = .returned (.bool true) ∧ ∃ q, w' = wn.drewN q := by
 refine are_gen wn lo so lc sc Q M base sr hQ2 (by omega) hsr (by omega) (fun k hk => ?_)
 obtain ⟨t, ht⟩ : ∃ t, T[k]? = some t := ⟨_, List.getElem?_eq_getElem (by omega)⟩
 obtain ⟨g, c, ao, c2, e1, e2, c0, c1⟩ := found_at H ht
 have e1 : lo = some ⟨g, 0, none⟩ := (Value.slice.inj e1).1
 have pw : PoolW 3 wn 105 (listsOf T) := H.get 1 rfl
 have pd : Pool wn (dataOf T) := H.get 2 rfl
 have ow := pw.row (t.1, t.2.map pvSlot) (List.mem_of_getElem? (i := k) (by unfold listsOf; rw [List.getElem?_map, ht]; rfl))
 have Rw : ∀ p ∈ t.2, OwnR wn 0 p.2 (ub p.1.bs).length (ub p.1.bs) := fun p hp => pd.row (pvRow p) (List.mem_flatMap.2 ⟨t, List.mem_of_getElem? ht, List.mem_map_of_mem hp⟩)
 have eF : (found T)[k]? = some (dOf t.2) := by unfold found; rw [List.getElem?_map, ht]; rfl
 have hg := hgood _ (List.mem_of_getElem? eF)
 have eL : L[k]? = some (dOf t.2) := by
  rw [hpre, List.getElem?_take, if_pos hk] at eF
  exact eF
 have hl : t.2.length ≤ 1023 := by have := hg.2.1; unfold dOf at this; rw [List.length_map] at this; exact this
 have P := pts_of2 ow Rw (by omega) (fun p hp => by rw [(hg.2.2 p.1 (List.mem_map_of_mem hp)).2.2.1]; decide)
 obtain ⟨u, hu⟩ : ∃ u, vals[k]? = some u := ⟨_, List.getElem?_eq_getElem (by omega)⟩
 obtain ⟨qs, Q1, al, alike⟩ := (rel k u _ hu eL).pts CW (show PoolW 3 wn 105 (listsOf T0) from H.get 3 rfl) (show Pool wn (dataOf T0) from H.get 4 rfl) hg (t := t.2) rfl
 obtain ⟨yo, yc, rfl⟩ := Q1.slice
 rcases own.2 with ⟨_, hz⟩ | ⟨g2, cap, cur, ev, _, _, _⟩
 ·omega
 ·have eso : so = some ⟨g2, 0, none⟩ := (Value.slice.inj ev).1
  subst eso
  have c3 := own.cells (g := g2) rfl k _ (by rw [List.getElem?_append_left (by omega)]; exact hu)
  rw [Addr.add_lit, Nat.zero_add] at c3
  have elen : (t.2.map toPt).length = t.2.length := List.length_map _
  refine ⟨g, ao, c2, g2, yo, yc, t.2.map toPt, qs, e1, rfl, c0, ?_, ?_, ?_, ?_, by rw [elen]; exact al, alike⟩
  ·rw [elen, ← e2]; exact c1
  ·rw [elen, al]; exact c3
  ·rw [elen, ← e2]; exact P
  ·rw [elen, al]; exact Q1

theorem kp_may {w w0 w1 : World} {ts : List Thing} {es : List WOpD} {T T0 : List Tx} {b0 y : Bay} {n m : Nat} {J : Wl.Jn} {L Lf : List (List Pd)} {G : Option (List Pd)} {sr : Nat} {k : Int} {vals : List Value} {lv : Value} {x base Q : Nat} {lo so : Option Addr} {lc sc : Nat}
 (ST : KpSt w es T0 b0 n m y J L G sr k vals lv)
 (H : Side w0 w1 (wideT 2 92 (.slice lo Q lc) (txSlots base T) :: poolWT 3 105 (listsOf T) :: poolT (dataOf T) :: lifeT x (.slice so vals.length sc) sr lv :: ownT 58 (.slice so vals.length sc) vals :: poolWT 3 105 (listsOf T0) :: poolT (dataOf T0) :: ts))
 (CW : Chg [] w w1) (hQ : Q = T.length) (hf : found T = Lf) (hpart : (Lf = L.take Lf.length ∧ sr ≤ Lf.length ∧ Lf.length ≤ L.length) ∨ ((k = 4 ∨ k = 5) ∧ Lf = []))
 (hgood : ∀ l ∈ Lf, Sc.Good l) (hL : L.length ≤ 20000) (hb : base ≤ 1000000) :
 Calls Tryz.prog 41 #[.pointer (some ⟨x, 0, none⟩), .slice lo Q lc, .int .i64 k] w1 fun e w' => e = .returned (.bool true) ∧ Chg [] w1 w' := by
 subst hf
 have hlen : (found T).length = T.length := found_len T
 have B : Blk w1 x 81 [.slice so vals.length sc, .int .i64 sr, lv] := H.get 3 rfl
 have OR : w1.ownsRow 0 58 1 (.slice so vals.length sc) vals.length vals := H.get 4 rfl
 have drop : ∀ {e : Ending} {w' : World}, (e = .returned (.bool true) ∧ ∃ q, w' = w1.drewN q) → (e = .returned (.bool true) ∧ Chg [] w1 w') := by
  rintro e w' ⟨h1, q, rfl⟩
  exact ⟨h1, (Chg.refl [] w1).drewN q⟩
 rcases hpart with ⟨p1, p2, p3⟩ | ⟨p1, p2⟩
 ·have hvl := ST.len
  have ARE : ∀ (wn : World) (more : List Value) (M : Nat) (ao : Option Addr) (ac : Nat), Chg [] w1 wn → M = vals.length + more.length → wn.ownsRow 0 58 1 (.slice ao M ac) M (vals ++ more) →
   Calls Tryz.prog 45 #[.slice lo Q lc, .slice ao M ac, .int .i64 (sr : Int)] wn fun e w' => e = .returned (.bool true) ∧ ∃ q, w' = wn.drewN q := fun wn more M ao ac c hM own =>
   kp_are ((H.quiet c).sub (.cons_cons _ (.cons_cons _ (.cons_cons _ (.cons _ (.cons _ (List.Sublist.refl _))))))) (CW.trans c) hQ (by rw [hQ, ← hlen]; exact p1) hgood ST.rel (by omega) (by omega) (by omega) hb hM own
  by_cases k2 : k = 2
  ·subst k2
   obtain ⟨la, l2, l3, rfl⟩ := ST.sl
   cases la with
   | none => exact (may20_any w1 x so lo sc lc vals.length Q sr l2 l3 B (fun q => ARE _ [] _ so sc ((Chg.refl [] w1).drewN q) rfl (by rw [List.append_nil]; exact OR))).mono fun e w' h => drop h
   | some la =>
     have one : ∀ u ∈ vals, u.oneCell' = true := fun u hu => by
      obtain ⟨i, hi⟩ := List.mem_iff_getElem?.1 hu
      have hil := (List.getElem?_eq_some_iff.1 hi).1
      obtain ⟨o, n', c, rfl⟩ := (ST.rel i u _ hi (List.getElem?_eq_getElem (by omega))).one (show PoolW 3 w1 105 (listsOf T0) from H.get 5 rfl)
      rfl
     rcases OR.2 with ⟨ev, hz⟩ | ⟨g, cap, cur, ev, _, _, _⟩
     ·obtain rfl : vals = [] := List.eq_nil_of_length_eq_zero hz
      obtain ⟨rfl, _, rfl⟩ := Value.slice.inj ev
      exact may2n_any w1 x lo (some la) 0 lc Q l2 l3 sr B (by simp) (fun wn ao ac c own => ARE wn [.slice (some la) l2 l3] 1 ao ac c rfl own)
     ·obtain ⟨rfl, _, rfl⟩ := Value.slice.inj ev
      exact may2_any w1 x g lo (some la) _ lc Q l2 l3 sr vals B (by simp) OR (by omega) one (fun wn ao ac c own => ARE wn [.slice (some la) l2 l3] _ ao ac c rfl own)
  ·exact (mayk_any w1 x so lo sc lc vals.length Q sr lv k B k2 (.inr fun q => ARE _ [] _ so sc ((Chg.refl [] w1).drewN q) rfl (by rw [List.append_nil]; exact OR))).mono fun e w' h => drop h
 ·have hz : Q = 0 := by rw [hQ, ← hlen, p2]; rfl
  exact (mayk_any w1 x so lo sc lc vals.length Q sr lv k B (by omega) (.inl ⟨hz, p1⟩)).mono fun e w' h => drop h

end Go.Proofs.YtkafkdlgflkjgaaGreat

/-
  WalKeeps: the journal in memory, what is kept of it, and what was found. By an AI agent.
-/
namespace Go.Proofs.YtkafkdlgflkjgaaGreat
open Go.RowKit Go.Maps Crc

/-- The journal in memory, what is kept of it, and the batches that were found at the last cut. -/
def RKp (w0 : World) (b W D R : Nat) (J : Wl.Jn) (y : Bay) (x : Nat) (sr : Int) (vals : List Value) (lv : Value) (T : List Tx) (ts : List Thing) (w' : World) : Prop :=
 ∃ cv F so sc, Side w0 w' (jts b W D R J cv y F (lifeT x (.slice so vals.length sc) sr lv :: ownT 58 (.slice so vals.length sc) vals :: poolWT 3 105 (listsOf T) :: poolT (dataOf T) :: ts))

section
variable {w0 w' : World} {b W D R x : Nat} {J : Wl.Jn} {y : Bay} {sr : Int} {vals : List Value} {lv : Value} {T : List Tx} {ts : List Thing}

theorem RKp.chg (h : RKp w0 b W D R J y x sr vals lv T ts w') : Chg [] w0 w' := by
 obtain ⟨cv, F, so, sc, H⟩ := h
 exact H.chg

theorem RKp.quiet {w'' : World} (h : RKp w0 b W D R J y x sr vals lv T ts w') (q : Chg [] w' w'') : RKp w0 b W D R J y x sr vals lv T ts w'' := by
 obtain ⟨cv, F, so, sc, H⟩ := h
 exact ⟨cv, F, so, sc, H.quiet q⟩

theorem RKp.make {cv : Value} {F : List Nat} (q : Nat) (H : Side w0 w' (jts b W D R J cv y F (poolWT 3 105 (listsOf T) :: poolT (dataOf T) :: ts))) : RKp w0 b W D R J y w'.heap.size q [] (.slice none 0 0) T ts (w'.alloc (.cells #[.slice none 0 0, .int .i64 q, .slice none 0 0] 81)) := by
 have h1 := H.behind 81 [.slice none 0 0, .int .i64 q, .slice none 0 0]
 have h2 := h1.add (b := ownT 58 (.slice none 0 0) []) (Chg.refl _ _) (World.ownsRow_nil _ _ _ _) (fun k hk => by cases hk)
 exact ⟨cv, F, none, 0, h2.perm (by
  show ([_] ++ ([_, _, _, _, _, _] ++ (_ :: _ :: ts))).Perm ([_, _, _, _, _, _] ++ ([_] ++ (_ :: _ :: ts)))
  rw [← List.append_assoc, ← List.append_assoc]
  exact List.Perm.append_right _ List.perm_append_comm)⟩

theorem RKp.begin {cv : Value} {F : List Nat} (H : Side w0 w' (jts b W D R J cv y F [])) : RKp w0 b W D R J y w'.heap.size (0 : Nat) [] (.slice none 0 0) [] [] (w'.alloc (.cells #[.slice none 0 0, .int .i64 (0 : Nat), .slice none 0 0] 81)) := by
 have h1 := H.add (b := poolT []) (Chg.refl [] w') (Pool.nil w') (fun k hk => by cases hk)
 have h2 := h1.add (b := poolWT 3 105 []) (Chg.refl [] w') (PoolW.nil 3 w' _) (fun k hk => by cases hk)
 refine RKp.make (T := []) 0 (cv := cv) (F := F) (h2.perm ?_)
 show ([_, _] ++ [_, _, _, _, _]).Perm ([_, _, _, _, _] ++ [_, _])
 exact List.perm_append_comm

/-- A block behind it all. -/
theorem RKp.push (h : RKp w0 b W D R J y x sr vals lv T [] w') (ty : TypeId) (vs : List Value) : RKp w0 b W D R J y x sr vals lv T [blkT w'.heap.size ty vs] (w'.alloc (.cells vs.toArray ty)) := by
 obtain ⟨cv, F, so, sc, H⟩ := h
 refine ⟨cv, F, so, sc, (H.newBlk ty vs).perm ?_⟩
 show ([_] ++ [_, _, _, _, _, _, _, _, _]).Perm ([_, _, _, _, _, _, _, _, _] ++ [_])
 exact List.perm_append_comm

theorem RKp.pop {t : Thing} (h : RKp w0 b W D R J y x sr vals lv T [t] w') : RKp w0 b W D R J y x sr vals lv T [] w' := by
 obtain ⟨cv, F, so, sc, H⟩ := h
 exact ⟨cv, F, so, sc, H.sub (.cons_cons _ (.cons_cons _ (.cons_cons _ (.cons_cons _ (.cons_cons _ (.cons_cons _ (.cons_cons _ (.cons_cons _ (.cons_cons _ (List.nil_sublist _))))))))))⟩

theorem RKp.top {t : Thing} (h : RKp w0 b W D R J y x sr vals lv T [t] w') : t.P w' := by
 obtain ⟨cv, F, so, sc, H⟩ := h
 exact H.get 9 rfl

theorem rkp_call (a : WOpD) (h : RKp w0 b W D R J y x sr vals lv T ts w') (hf : J.Fit) (hs : I64 J.slot) (hl : y.Low 999990000) (h2 : Pts w' a.ptsV a.pts) (hb : ∀ p ∈ a.pts, By p.d ∧ Cap p.v) (h3 : ∃ o n c, a.keepV = .slice o n c) :
 Calls Tryz.prog 38 #[.pointer (some ⟨W, 0, none⟩), .agg #[.int .i64 a.kind, .int .i64 a.num, a.ptsV, a.keepV]] w' fun e w'' => e = .returned (.int .u16 (Wl.callJ y J a).err) ∧ Hid (RKp w0 b W D R (Wl.callJ y J a).jn (Wl.callJ y J a).bay x sr vals lv T ts w'') := by
 obtain ⟨cv, F, so, sc, H⟩ := h
 refine (calls_any H hf hs hl a h2 hb h3).mono ?_
 rintro e w'' ⟨h1, F2, cv2, h2⟩
 exact ⟨h1, cv2, F2, so, sc, h2.out⟩

theorem rkp_does (h : RKp w0 b W D R J y x sr vals lv T ts w') (hv : vals.length ≤ 100000) (hl : ∃ o n c, lv = .slice o n c) (k num : Int) (po : Option Addr) (pn pc : Nat) (ko : Option Addr) (kn kc : Nat) :
 Calls Tryz.prog 39 #[.pointer (some ⟨x, 0, none⟩), .agg #[.int .i64 k, .int .i64 num, .slice po pn pc, .slice ko kn kc]] w' fun e w'' => e = .returned (.tuple #[]) ∧ Hid (RKp w0 b W D R J y x (lifeS k sr vals) (lifeV k lv vals) (lifeL k lv (.slice po pn pc)) T ts w'') := by
 obtain ⟨cv, F, so, sc, H⟩ := h
 have H2 : Side w0 w' (lifeT x (.slice so vals.length sc) sr lv :: ownT 58 (.slice so vals.length sc) vals :: jts b W D R J cv y F (poolWT 3 105 (listsOf T) :: poolT (dataOf T) :: ts)) := H.perm (by
  show ([_, _, _, _, _] ++ ([_, _] ++ (_ :: _ :: ts))).Perm ([_, _] ++ ([_, _, _, _, _] ++ (_ :: _ :: ts)))
  rw [← List.append_assoc, ← List.append_assoc]
  exact List.Perm.append_right _ List.perm_append_comm)
 refine (does_any H2 hv k num po pn pc ko kn kc hl).mono ?_
 rintro e w'' ⟨h1, sv, h2⟩
 obtain ⟨so2, sc2, rfl⟩ := owns_slice (show w''.ownsRow 0 58 1 sv (lifeV k lv vals).length (lifeV k lv vals) from h2.out.get 1 rfl)
 exact ⟨h1, cv, F, so2, sc2, h2.out.perm (by
  show ([_, _] ++ ([_, _, _, _, _] ++ (_ :: _ :: ts))).Perm ([_, _, _, _, _] ++ ([_, _] ++ (_ :: _ :: ts)))
  rw [← List.append_assoc, ← List.append_assoc]
  exact List.Perm.append_right _ List.perm_append_comm)⟩

theorem rkp_trip (h : RKp w0 b W D R J y x sr vals lv T ts w') (n : Int) (hn : I64 n) :
 Calls Tryz.prog 37 #[.pointer (some ⟨b, 0, none⟩), .int .i64 n] w' fun e w'' => e = .returned (.int .u16 (y.tripErr n : Nat)) ∧ Hid (RKp w0 b W D R J (y.tripped n) x sr vals lv T ts w'') := by
 obtain ⟨cv, F, so, sc, H⟩ := h
 refine (btrip_any b F y w' (H.get 0 rfl) n hn).mono ?_
 rintro e w'' ⟨h1, T2⟩
 obtain ⟨F2, H2⟩ := H.act 0 rfl T2.out
 exact ⟨h1, cv, F2, so, sc, H2⟩

theorem rkp_cut {w : World} (h : RKp w0 b W D R J y x sr vals lv T ts w') (CW : Chg [] w w0) (ko : Option Addr) (kc : Nat) (bs : List Bool) (HK : RdV w (.slice ko bs.length kc) (bs.map Value.bool)) (hkl : bs.length ≤ 140737488355328) :
 Calls Tryz.prog 19 #[.pointer (some ⟨b, 0, none⟩), .slice (some ⟨w'.heap.size, 0, none⟩) 1 1] (w'.alloc (.cells #[.slice ko bs.length kc] 59)) fun e w'' => e = .returned (.tuple #[]) ∧ Hid (RKp w0 b W D R J (y.cut [bs]) x sr vals lv T ts w'') := by
 obtain ⟨cv, F, so, sc, H⟩ := h
 have BX : Blk (w'.alloc (.cells #[.slice ko bs.length kc] 59)) w'.heap.size 59 [.slice ko bs.length kc] := Blk.made w' [.slice ko bs.length kc] 59
 have HA := H.quiet ((Chg.refl [] w').alloc (.cells #[.slice ko bs.length kc] 59))
 generalize w'.alloc (.cells #[.slice ko bs.length kc] 59) = wA at *
 have KB : BRs wA (.slice (some ⟨w'.heap.size, 0, none⟩) 1 1) [⟨.slice ko bs.length kc, bs⟩] := by
  refine .inr ⟨_, 0, 1, rfl, BX.lt, (show 1 ≤ 140737488355328 by decide), fun i d hd => ?_⟩
  have hi : i < 1 := (List.getElem?_eq_some_iff.1 hd).1
  obtain rfl : i = 0 := by omega
  obtain rfl : _ = d := Option.some.inj hd
  exact ⟨BX.cell (j := 0) rfl, HK.chgNil (CW.trans HA.chg), hkl⟩
 refine (bcut_any b F y wA (HA.get 0 rfl) _ _ KB (fun _ k hk => by
  obtain rfl : w'.heap.size = k := Option.some.inj hk
  refine ⟨fun hm => ?_, BX.lt⟩
  have := (H.get 0 rfl : BayIn _ _ _ _).lt _ hm
  omega) (fun d hd hn k hk => by
  obtain rfl : d = ⟨.slice ko bs.length kc, bs⟩ := by simpa using hd
  have h1 := RdV.old (HK.chgNil CW) (by simpa using hn) k hk
  have h2 := HA.chg.size
  exact ⟨fun hm => by have := HA.new _ (List.mem_of_getElem? (i := 0) rfl) k hm; omega, by omega⟩)).mono ?_
 rintro e w'' ⟨h1, T2⟩
 obtain ⟨F2, H2⟩ := HA.act 0 rfl T2.out
 exact ⟨h1, cv, F2, so, sc, H2⟩

end

/-- Opened once behind a cut. -/
def RO1 (w0 : World) (b W D R : Nat) (J : Wl.Jn) (y : Bay) (x : Nat) (sr : Int) (vals : List Value) (lv : Value) (T0 : List Tx) (T : List Tx) (tv : Value) (base : Nat) (ts : List Thing) (w' : World) : Prop :=
 ∃ F so sc, Side w0 w' (jts b W D R J (.slice none 0 0) y F (wideT 2 92 tv (txSlots base T) :: poolWT 3 105 (listsOf T) :: poolT (dataOf T) :: lifeT x (.slice so vals.length sc) sr lv :: ownT 58 (.slice so vals.length sc) vals :: poolWT 3 105 (listsOf T0) :: poolT (dataOf T0) :: ts))

/-- What is found behind a cut, whatever the journal's bay does but read. -/
def Finds (b n : Nat) (y : Bay) (d : Dk) (Jf : Wl.Jn) (Lf : List (List Pd)) : Prop := ∀ {w0 w' : World} {ts : List Thing} {e : Ending}, Opnd w0 b y 0 (n : Int) ts e w' → Again w0 b y 0 d Jf Lf ts e w'

section
variable {w0 w' : World} {b W D R x n : Nat} {J Jf : Wl.Jn} {y : Bay} {sr : Int} {vals : List Value} {lv : Value} {T0 T : List Tx} {ts : List Thing} {d : Dk} {Lf : List (List Pd)} {tv : Value} {base : Nat}

theorem rkp_open (h : RKp w0 b W D R J y x sr vals lv T0 [] w') (low : y.Low 999990000) (hn : n ≤ 2048) (AG : Finds b n y d Jf Lf) :
 Calls Tryz.prog 40 #[.pointer (some ⟨b, 0, none⟩), .int .i64 0, .int .i64 n] w' fun e w'' => ∃ W1 D1 R1 tv1 T1 y1, e = .returned (.tuple #[.pointer (some ⟨W1, 0, none⟩), tv1, .int .u16 0]) ∧ Hid (found T1 = Lf) ∧ Hid (y.Went y1 0 d (1 + Jf.S) 0 0) ∧
  Hid (RO1 w0 b W1 D1 R1 (Wl.begun 0 Jf.S ⟨Jf.ep, Jf.next - Lf.length, (Jf.t : Nat)⟩ Jf.u Jf.next) y1 x sr vals lv T0 T1 tv1 (Jf.next - Lf.length) [] w'') := by
 obtain ⟨cv, F, so, sc, H⟩ := h
 refine (wopen_any H 0 (n : Int) ⟨by decide, by decide⟩ ⟨by omega, by omega⟩ low).mono ?_
 intro e w'' hO
 obtain ⟨W1, D1, R1, tv1, T1, F1, y1, hf, hw, rfl, H6⟩ := AG hO
 refine ⟨W1, D1, R1, tv1, T1, y1, rfl, hf, hw, F1, so, sc, ?_⟩
 exact H6.out.sub (.cons_cons _ (.cons_cons _ (.cons_cons _ (.cons_cons _ (.cons_cons _ (.cons_cons _ (.cons_cons _ (.cons_cons _ (.cons _ (.cons _ (.cons _ (.cons _ (List.Sublist.refl _)))))))))))))

theorem ro1_open (h : RO1 w0 b W D R J y x sr vals lv T0 T tv base [] w') (low : y.Low 999990000) (hn : n ≤ 2048) (AG : Finds b n y d Jf Lf) :
 Calls Tryz.prog 40 #[.pointer (some ⟨b, 0, none⟩), .int .i64 0, .int .i64 n] w' fun e w'' => ∃ W1 tv1 T1 y1, e = .returned (.tuple #[.pointer (some ⟨W1, 0, none⟩), tv1, .int .u16 0]) ∧ Hid (found T1 = Lf) ∧ Hid (y.Went y1 0 d (1 + Jf.S) 0 0) ∧
  Hid (RO1 w0 b W D R J y1 x sr vals lv T0 T tv base (wideT 2 92 tv1 (txSlots (Jf.next - Lf.length) T1) :: poolWT 3 105 (listsOf T1) :: poolT (dataOf T1) :: []) w'') := by
 obtain ⟨F, so, sc, H⟩ := h
 refine (wopen_any H 0 (n : Int) ⟨by decide, by decide⟩ ⟨by omega, by omega⟩ low).mono ?_
 intro e w'' hO
 obtain ⟨W1, D1, R1, tv1, T1, F1, y1, hf, hw, rfl, H6⟩ := AG hO
 refine ⟨W1, tv1, T1, y1, rfl, hf, hw, F1, so, sc, ?_⟩
 have H7 := H6.out.sub (.cons_cons _ (.cons _ (.cons _ (.cons _ (.cons _ (List.Sublist.refl _))))))
 refine H7.perm ?_
 show ([_] ++ (([_, _, _] ++ [_, _, _, _, _, _, _, _, _, _, _]))).Perm ([_] ++ ([_, _, _, _, _, _, _, _, _, _, _] ++ [_, _, _]))
 exact List.Perm.append_left _ List.perm_append_comm

/-- What is asked then. -/
theorem ro1_next (h : RO1 w0 b W D R J y x sr vals lv T0 T tv base ts w') : Calls Tryz.prog 43 #[.pointer (some ⟨W, 0, none⟩)] w' (Still w' (.int .u64 (J.next : Int))) := by
 obtain ⟨F, so, sc, H⟩ := h
 exact wnext_any (H.get 2 rfl)

theorem RO1.chg (h : RO1 w0 b W D R J y x sr vals lv T0 T tv base ts w') : Chg [] w0 w' := by
 obtain ⟨F, so, sc, H⟩ := h
 exact H.chg

theorem RO1.quiet {w'' : World} (h : RO1 w0 b W D R J y x sr vals lv T0 T tv base ts w') (q : Chg [] w' w'') : RO1 w0 b W D R J y x sr vals lv T0 T tv base ts w'' := by
 obtain ⟨F, so, sc, H⟩ := h
 exact ⟨F, so, sc, H.quiet q⟩

theorem ro1_same {T1 : List Tx} {tv1 : Value} (h : RO1 w0 b W D R J y x sr vals lv T0 T tv base (wideT 2 92 tv1 (txSlots base T1) :: poolWT 3 105 (listsOf T1) :: poolT (dataOf T1) :: ts) w') (h1 : found T = Lf) (h2 : found T1 = Lf) (hl : Lf.length ≤ 100000) (hg : ∀ l ∈ Lf, Sc.Good l) :
 Calls Tryz.prog 42 #[tv, tv1] w' fun e w'' => e = .returned (.bool true) ∧ Chg [] w' w'' := by
 obtain ⟨F, so, sc, H⟩ := h
 have G : ∀ {A : List Tx}, found A = Lf → (A.length ≤ 100000 ∧ ∀ t ∈ A, Sc.Good (dOf t.2)) := fun {A} e => ⟨by rw [← found_len, e]; exact hl, fun t ht => hg _ (by rw [← e]; exact List.mem_map_of_mem (f := fun t : Tx => dOf t.2) ht)⟩
 have X := txs_found (H.sub (.cons _ (.cons _ (.cons _ (.cons _ (.cons _ (List.Sublist.refl _))))))) (G h1).1 (G h1).2
 have Y := txs_found (H.sub (.cons _ (.cons _ (.cons _ (.cons _ (.cons _ (.cons _ (.cons _ (.cons _ (.cons _ (.cons _ (.cons _ (.cons _ (List.Sublist.refl _)))))))))))))) (G h2).1 (G h2).2
 refine (sameTxns_true _ _ _ _ w' X Y (by rw [txFs_len, txFs_len, ← found_len, ← found_len, h1, h2]) (txs_alike (h1.trans h2.symm))).mono ?_
 rintro e w'' ⟨r, q, rfl⟩
 exact ⟨r, (Chg.refl [] w').drewN q⟩

theorem ro1_cell (h : RO1 w0 b W D R J y x sr vals lv T0 T tv base ts w') {k : Nat} (hk : k < T.length) : ∃ g c, tv = .slice (some ⟨g, 0, none⟩) T.length c ∧ ∃ t, T[k]? = some t ∧ w'.cell? ⟨g, k * 2, none⟩ = some (.int .u64 ((base : Int) + k)) ∧ w'.cell? ⟨g, k * 2 + 1, none⟩ = some t.1 := by
 obtain ⟨F, so, sc, H⟩ := h
 have ht := List.getElem?_eq_getElem hk
 obtain ⟨g, c, ao, c2, e1, _, c0, c1⟩ := found_at (H.sub (.cons _ (.cons _ (.cons _ (.cons _ (.cons _ (List.Sublist.refl _))))))) ht
 exact ⟨g, c, e1, _, ht, c0, c1⟩

theorem ro1_slice (h : RO1 w0 b W D R J y x sr vals lv T0 T tv base ts w') : ∃ o c, tv = .slice o T.length c := by
 obtain ⟨F, so, sc, H⟩ := h
 have ow : OwnW 2 w' 0 92 tv (txSlots base T) := H.get 5 rfl
 obtain ⟨lo, lc, h⟩ := ow.rd.slice
 rw [txSlots_len] at h
 exact ⟨lo, lc, h⟩

/-- A new life behind it. -/
theorem RO1.fresh (h : RO1 w0 b W D R J y x sr vals lv T0 T tv base ts w') (q : Nat) : RKp w0 b W D R J y w'.heap.size q [] (.slice none 0 0) T (wideT 2 92 tv (txSlots base T) :: []) (w'.alloc (.cells #[.slice none 0 0, .int .i64 q, .slice none 0 0] 81)) := by
 obtain ⟨F, so, sc, H⟩ := h
 have H2 : Side w0 w' (jts b W D R J (.slice none 0 0) y F (wideT 2 92 tv (txSlots base T) :: poolWT 3 105 (listsOf T) :: poolT (dataOf T) :: [])) := H.sub (.cons_cons _ (.cons_cons _ (.cons_cons _ (.cons_cons _ (.cons_cons _ (.cons_cons _ (.cons_cons _ (.cons_cons _ (List.nil_sublist _)))))))))
 refine RKp.make q (cv := .slice none 0 0) (F := F) (H2.perm ?_)
 show ([_, _, _, _, _] ++ ([_] ++ [_, _])).Perm ([_, _, _, _, _] ++ ([_, _] ++ [_]))
 exact List.Perm.append_left _ List.perm_append_comm

end

theorem ro1_may {w w0 w1 : World} {ts : List Thing} {es : List WOpD} {T T0 : List Tx} {b0 y y0 : Bay} {b W D R n m : Nat} {J J0 : Wl.Jn} {L Lf : List (List Pd)} {G : Option (List Pd)} {sr : Nat} {k : Int} {vals : List Value} {lv tv : Value} {x base : Nat}
 (ST : KpSt w es T0 b0 n m y0 J0 L G sr k vals lv) (h : RO1 w0 b W D R J y x sr vals lv T0 T tv base ts w1)
 (CW : Chg [] w w0) (hf : found T = Lf) (hpart : (Lf = L.take Lf.length ∧ sr ≤ Lf.length ∧ Lf.length ≤ L.length) ∨ ((k = 4 ∨ k = 5) ∧ Lf = []))
 (hgood : ∀ l ∈ Lf, Sc.Good l) (hL : L.length ≤ 20000) (hb : base ≤ 1000000) :
 Calls Tryz.prog 41 #[.pointer (some ⟨x, 0, none⟩), tv, .int .i64 k] w1 fun e w' => e = .returned (.bool true) ∧ Chg [] w1 w' := by
 obtain ⟨lo, lc, rfl⟩ := ro1_slice h
 obtain ⟨F, so, sc, H⟩ := h
 exact kp_may ST (H.sub (.cons _ (.cons _ (.cons _ (.cons _ (.cons _ (List.Sublist.refl _))))))) (CW.trans H.chg) rfl hf hpart hgood hL hb

section
variable {w0 w' : World} {b W D R x : Nat} {J : Wl.Jn} {y : Bay} {sr : Int} {vals : List Value} {lv : Value} {T : List Tx} {tv : Value} {base : Nat}

theorem rkp_found (h : RKp w0 b W D R J y x sr vals lv T [wideT 2 92 tv (txSlots base T)] w') {k : Nat} (hk : k < T.length) : ∃ g c ao n c2 t, tv = .slice (some ⟨g, 0, none⟩) T.length c ∧ T[k]? = some t ∧ t.1 = .slice ao n c2 ∧ w'.cell? ⟨g, k * 2 + 1, none⟩ = some (.slice ao n c2) := by
 obtain ⟨cv, F, so, sc, H⟩ := h
 have ht := List.getElem?_eq_getElem hk
 have H2 : Side w0 w' (wideT 2 92 tv (txSlots base T) :: poolWT 3 105 (listsOf T) :: poolT (dataOf T) :: []) := (H.sub (.cons _ (.cons _ (.cons _ (.cons _ (.cons _ (.cons _ (.cons _ (List.Sublist.refl _))))))))).perm (by
  show ([_, _] ++ [_]).Perm ([_] ++ [_, _])
  exact List.perm_append_comm)
 obtain ⟨g, c, ao, c2, e1, e2, _, c1⟩ := found_at H2 ht
 exact ⟨g, c, ao, _, c2, _, e1, ht, e2, by rw [← e2]; exact c1⟩

/-- One batch more that is sealed. -/
theorem rkp_app {w1 wn : World} {cv : Value} {F : List Nat} {so : Option Addr} {sc : Nat} {svn u : Value} {ts : List Thing}
 (H : Side w0 w1 (jts b W D R J cv y F (lifeT x (.slice so vals.length sc) sr lv :: ownT 58 (.slice so vals.length sc) vals :: poolWT 3 105 (listsOf T) :: poolT (dataOf T) :: ts)))
 (c : Chg (Value.slice so vals.length sc).ownBlock.toList w1 wn) (ol : wn.ownsRow 0 58 1 svn (vals.length + 1) (vals ++ [u])) (nb : ∀ k, svn.ownBlock = some k → (Value.slice so vals.length sc).ownBlock = some k ∨ w1.heap.size ≤ k) :
 RKp w0 b W D R J y x sr (vals ++ [u]) lv T ts (wn.setCell ⟨x, 0, none⟩ svn) := by
 have H1 : Side w0 w1 (lifeT x (.slice so vals.length sc) sr lv :: ownT 58 (.slice so vals.length sc) vals :: jts b W D R J cv y F (poolWT 3 105 (listsOf T) :: poolT (dataOf T) :: ts)) := H.perm (by
  show ([_, _, _, _, _] ++ ([_, _] ++ (_ :: _ :: ts))).Perm ([_, _] ++ ([_, _, _, _, _] ++ (_ :: _ :: ts)))
  rw [← List.append_assoc, ← List.append_assoc]
  exact List.Perm.append_right _ List.perm_append_comm)
 have H2 : Side w0 w1 (ownT 58 (.slice so vals.length sc) vals :: lifeT x (.slice so vals.length sc) sr lv :: jts b W D R J cv y F (poolWT 3 105 (listsOf T) :: poolT (dataOf T) :: ts)) := H1.front 1
 have h2 : Side w0 wn (ownT 58 svn (vals ++ [u]) :: lifeT x (.slice so vals.length sc) sr lv :: jts b W D R J cv y F (poolWT 3 105 (listsOf T) :: poolT (dataOf T) :: ts)) := by
  refine H2.turn c (fun k hk => .inl hk) (show wn.ownsRow 0 58 1 svn (vals ++ [u]).length (vals ++ [u]) by rw [List.length_append, List.length_singleton]; exact ol) (fun k hk => ?_)
  have hk' : svn.ownBlock = some k := by simpa [ownT] using hk
  rcases nb k hk' with q | q
  ·exact .inl (by show k ∈ (Value.slice so vals.length sc).ownBlock.toList; simp [q])
  ·exact .inr q
 have h3 := (h2.blkSet 1 rfl 0 svn).front 1
 obtain ⟨so2, sc2, rfl⟩ := owns_slice ol
 have e : vals.length + 1 = (vals ++ [u]).length := by rw [List.length_append, List.length_singleton]
 rw [e] at h3 ⊢
 refine ⟨cv, F, so2, sc2, Side.perm (show Side w0 _ (lifeT x (.slice so2 (vals ++ [u]).length sc2) sr lv :: ownT 58 (.slice so2 (vals ++ [u]).length sc2) (vals ++ [u]) :: jts b W D R J cv y F (poolWT 3 105 (listsOf T) :: poolT (dataOf T) :: ts)) from h3) ?_⟩
 show ([_, _] ++ ([_, _, _, _, _] ++ (_ :: _ :: ts))).Perm ([_, _, _, _, _] ++ ([_, _] ++ (_ :: _ :: ts)))
 rw [← List.append_assoc, ← List.append_assoc]
 exact List.Perm.append_right _ List.perm_append_comm

end

end Go.Proofs.YtkafkdlgflkjgaaGreat

/-
  WalKeeps' walk. By an AI agent.
-/
namespace Go.Proofs.YtkafkdlgflkjgaaGreat
open Go.RowKit Go.Maps Crc

theorem kp_coming {y : Bay} (h : Calm (Bay.new [2050]) y) : ∀ (i : Nat) (hi : i < y.slots.length), y.slots[i].coming = none := fun i hi => by
 have e : y.slots.map (·.coming) = [none] := h
 have h1 : (y.slots.map (·.coming))[i]? = some (y.slots[i].coming) := by rw [List.getElem?_map, List.getElem?_eq_getElem hi]; rfl
 rw [e] at h1
 have hl : i < 1 := by have := (List.getElem?_eq_some_iff.1 h1).1; simpa using this
 obtain rfl : i = 0 := by omega
 exact (Option.some.inj h1).symm

theorem kp_bounds {w : World} {es : List WOpD} {T : List Tx} {n m : Nat} {y : Bay} {J : Wl.Jn} {L : List (List Pd)} {G : Option (List Pd)} {sr : Nat} {k : Int} {vals : List Value} {lv : Value}
 (h : KpSt w es T (Bay.new [2050]) n m y J L G sr k vals lv) (hw : wopW es es.length ≤ 5000) (hm : m ≤ 5000) : y.Low 60000000 ∧ L.length ≤ 11000 :=
 ⟨h.low.mono (by have := (wopW_le hw).2 m; omega), by have := h.less; omega⟩

/-- Behind a cut: how it is to be opened. -/
theorem kp_cut {w : World} {es : List WOpD} {T : List Tx} {n m : Nat} {y : Bay} {J : Wl.Jn} {L : List (List Pd)} {G : Option (List Pd)} {sr : Nat} {k : Int} {vals : List Value} {lv : Value} {a : WOpD} (b : Nat)
 (h : KpSt w es T (Bay.new [2050]) n m y J L G sr k vals lv) (hw : wopW es es.length ≤ 5000) (hm : m ≤ 5000) (ha : es[m]? = some a) (keep : List Bool) :
 ∃ d Jf Lf, (y.cut [keep]).Low 70000000 ∧ (∀ y', (y.cut [keep]).Up 0 d → y'.Up 0 d → Finds b n y' d Jf Lf) ∧ (y.cut [keep]).Up 0 d ∧ d.cache = [] ∧ Jf.S = n ∧
   ((Lf = L.take Lf.length ∧ sr ≤ Lf.length ∧ Lf.length ≤ L.length) ∨ ((k = 4 ∨ k = 5) ∧ Lf = [])) ∧ (∀ l ∈ Lf, Sc.Good l) ∧ L.length ≤ 20000 ∧ Lf.length ≤ 20000 ∧ Lf.length + 1 ≤ Jf.next ∧ Jf.next ≤ 11000 ∧
   ∀ (y1 y2 : Bay) (T' : List Tx), (y.cut [keep]).Went y1 0 d (1 + Jf.S) 0 0 → y1.Went y2 0 d (1 + Jf.S) 0 0 → found T' = Lf → n ≤ 2048 →
     KpSt w es T' (Bay.new [2050]) n (m + 1) y2 (Wl.begun 0 Jf.S ⟨Jf.ep, Jf.next - Lf.length, (Jf.t : Nat)⟩ Jf.u Jf.next) Lf none Lf.length 0 (T'.map (·.1)) (.slice none 0 0) := by
 have hn0 : NoCome (Bay.new [2050]) 0 := by unfold NoCome Bay.new Bay.slotOf; rfl
 obtain ⟨d, Jf, Lf, u1, u2, u3, u4, u5, u6, u7, u8, u9⟩ := h.cut hm hn0 keep
 have hb := kp_bounds h hw hm
 have lc := wl_low_cut h.low (kp_coming h.calm) [keep]
 have hLf : Lf.length ≤ 11000 := by
  rcases u5 with ⟨_, _, q⟩ | ⟨_, q⟩
  ·have := hb.2; omega
  ·rw [q]; exact Nat.zero_le _
 refine ⟨d, Jf, Lf, lc.mono (by have := (wopW_le hw).2 m; omega), fun y' _ hu {w0 w'} {ts} {e} hO => u3 y' hu hO, u1, u2, u6, u5, u9, by have := hb.2; omega, by omega, u7, by omega, fun y1 y2 T' q1 q2 hT n2 => ?_⟩
 have q := q1.trans q2
 have hnc : NoCome (y.cut [keep]) 0 := by
  unfold NoCome
  show ((y.slots.mapIdx (Bay.cutSlot [keep]))[0]?).bind (·.coming) = none
  rw [List.getElem?_mapIdx]
  cases hx : y.slots[0]? with
  | none => rfl
  | some x =>
    show (Bay.cutSlot [keep] 0 x).coming = none
    unfold Bay.cutSlot
    split
    ·rfl
    ·next q => exact q
 exact h.again ha u2 (u4 y2 q2.up) u6 u7 u8 (by simpa using q) (by omega) hT hnc lc

/-- A value comes back, and this holds then. -/
def KGive (S K : World → Prop) (v : Value) (e : Ending) (w' : World) : Prop := e = .returned v ∧ Hid (K w') ∧ Hid (S w')

theorem kgive_of {TS KP : World → Prop} (hq : ∀ w' w'', TS w' → Chg [] w' w'' → TS w'') (hK : ∀ w', TS w' → KP w') {w' : World} (h : TS w') {fn : Nat} {args : Array Value} {v : Value} (k : Calls Tryz.prog fn args w' fun e w'' => e = .returned v ∧ Chg [] w' w'') : Calls Tryz.prog fn args w' (KGive TS KP v) := by
 refine k.mono ?_
 rintro e w'' ⟨h1, c⟩
 have h2 := hq _ _ h c
 exact ⟨h1, hK _ h2, h2⟩

/-- How it all stands ahead of an op. -/
def KAll (w w4 : World) (es : List WOpD) (n m b W D R x : Nat) (k : Int) (wr : World) : Prop :=
 ∃ y J L G, ∃ sr : Nat, ∃ vals lv T, KpSt w es T (Bay.new [2050]) n m y J L G sr k vals lv ∧ RKp w4 b W D R J y x sr vals lv T [] wr

set_option maxHeartbeats 4000000 in
set_option maxRecDepth 10000000 in
theorem wkeeps_any (w : World) (ring : Int) (hr : I64 ring) (v : Value) (es : List WOpD) (hv : WOps w v es) :
 Calls Tryz.prog 6 #[.int .i64 ring, v] w fun e w' => e = .returned (.bool true) ∧ Chg [] w w' := by
 have MU := Lib.hid (wmuch_any v es w hv)
 have HVS : Hid (∀ w', Chg [] w w' → WOps w' v es) := fun w' c => hv.chg c
 have KN : Hid (∀ w', Calls Tryz.prog 14 #[] w' fun e w'' => e = .returned (.bool true) ∧ Hid (Chg [] w' w'')) := wknown_any
 obtain ⟨vo, vc, rfl⟩ := hv.slice
 have NW : Hid (∀ w', Calls Tryz.prog 27 #[.slice (some ⟨w'.heap.size, 0, none⟩) 1 1] (w'.alloc (.cells #[.int .i64 2050] 3)) fun e w'' => ∃ b F, e = .returned (.tuple #[.pointer (some ⟨b, 0, none⟩), .int .u16 0]) ∧ Hid (Side w' w'' [BayT b (Bay.new [2050]) F])) := fun w' => by
  have BX := Blk.made w' [.int .i64 2050] 3
  refine (bnew_any (.slice (some ⟨w'.heap.size, 0, none⟩) 1 1) [2050] (w'.alloc (.cells #[.int .i64 2050] 3)) (.inr ⟨_, 0, 1, rfl, BX.lt, fun j u hj => by rw [Nat.zero_add]; exact BX.cell hj⟩) (by unfold Is; decide) (by decide)).mono ?_
  rintro e w1 (⟨hno, _⟩ | ⟨_, b, F, h1, D, N, C⟩)
  ·exact absurd (by decide +kernel) hno
  ·exact ⟨b, F, h1, (Side.nil ((Chg.refl [] w').alloc _)).add C.out D.out (fun k hk => by have := N.out k hk; simp at this; simp; omega)⟩
 have FM : Hid (∀ w0 w' b F, Side w0 w' [BayT b (Bay.new [2050]) F] → Calls Tryz.prog 15 #[.pointer (some ⟨b, 0, none⟩), .int .i64 0, .int .i64 ring, .int .u64 1] w' (Fmtd w0 b (Bay.new [2050]) 0 ring 1 [])) := fun w0 w' b F h => wformat_any h 0 ring ⟨by decide, by decide⟩ hr 1 (by decide) ((Bay.new_low [2050]).mono (by decide))
 clear hv hr
 go_enter Tryz.func6, Tryz.ntmps6
 go_wp2_with fail
 refine MU.out.mono ?_
 rintro e w1 ⟨mb, rfl, hsm, q, rfl⟩
 replace hsm := Lib.hid hsm
 clear MU
 cases mb with
 | true =>
   go_wp2_with fail
   go_ret
   exact ⟨rfl, (Chg.refl [] w).drewN q⟩
 | false =>
 have HW : Hid (wopW es es.length ≤ 5000) := hsm.out rfl
 clear hsm
 by_cases h2048 : (2048 : Int) < ring
 ·go_wp2_with fail
  go_ret
  exact ⟨rfl, (Chg.refl [] w).drewN q⟩
 obtain ⟨w2, hw2⟩ : ∃ w2, w2 = w.drewN q := ⟨_, rfl⟩
 have CW : Hid (Chg [] w w2) := by rw [hw2]; exact (Chg.refl [] w).drewN q
 rw [← hw2]
 clear hw2
 have NW2 := Lib.hid (NW.out w2)
 clear NW
 go_wp2_with (first
  | (go_at_call 27; refine NW2.out.mono ?_; rintro e w4 ⟨b, F, rfl, H⟩; have K1 := Lib.hid (KN.out w4); clear NW2 KN)
  | (go_at_call 14; refine K1.out.mono ?_; rintro e w5 ⟨rfl, C5⟩; have H4 := Lib.hid (H.out.quiet C5.out); have FM2 := Lib.hid (FM.out _ _ _ _ H4.out); clear K1 H C5 FM H4))
 refine FM2.out.mono ?_
 clear FM2
 rintro e w6 (⟨hno, rfl, F5, H5⟩ | ⟨_, n, hn, n5, n2, ⟨hno, _⟩ | ⟨_, W0, D0, R0, F5, rfl, H5⟩⟩)
 ·have hlt : ring < 5 := by
   by_cases q : ring < 5
   ·exact q
   ·exact absurd ⟨by decide, by omega, by omega⟩ hno
  have C5 := Lib.hid (CW.out.trans H5.out.chg)
  clear HVS H5 hno
  go_wp2_with fail
  go_ret
  exact ⟨rfl, C5.out⟩
 ·exact absurd (kp_begin (w := w) (es := es) n5 n2).1 hno
 subst hn
 have H0 : Hid (KAll w w2 es n 0 b W0 D0 R0 w6.heap.size 0 (w6.alloc (.cells #[.slice none 0 0, .int .i64 0, .slice none 0 0] 81))) := ⟨_, _, _, _, _, _, _, _, (kp_begin (w := w) (es := es) n5 n2).2, RKp.begin H5.out⟩
 obtain ⟨N, hN⟩ : ∃ N, N = es.length := ⟨_, rfl⟩
 have HN := Lib.hid hN
 have HVN : Hid (∀ w', Chg [] w w' → WOps w' (.slice vo N vc) es) := fun w' c => by rw [hN]; exact HVS.out w' c
 have HNW : Hid (N ≤ 5000) := by rw [hN]; exact (wopW_le HW.out).1
 rw [← hN]
 clear HVS hN H5
 have hl0 : (0 : Int) ≤ N := Int.natCast_nonneg _
 go_wp2_with fail
 go_loopw [7, 9, 10, 11] (fun wv xv uv i wr => ∃ (m W D R x : Nat) (k : Int), m ≤ N ∧ i = .int .i64 m ∧ wv = .pointer (some ⟨W, 0, none⟩) ∧ xv = .pointer (some ⟨x, 0, none⟩) ∧ uv = .int .i64 k ∧ Hid (KAll w w2 es n m b W D R x k wr)) (fun _ _ _ i _ => N - (intOf i).toNat)
 case atStart => exact ⟨0, W0, D0, R0, w6.heap.size, 0, Nat.zero_le _, rfl, rfl, rfl, rfl, H0⟩
 case round =>
  obtain ⟨m, W, D, R, x, k, hm, rfl, rfl, rfl, rfl, Hm⟩ := hrel
  clear H0
  have hm0 : (0 : Int) ≤ m := Int.natCast_nonneg _
  by_cases hlt : m < N
  case neg =>
   have hm1 : ¬ (m : Int) < N := by omega
   have CE : Hid (Chg [] w wr) := by
    obtain ⟨y, J, L, G, sr, vals, lv, T, ST, T0⟩ := Hm.out
    exact CW.out.trans T0.chg
   clear HVN HN Hm
   go_wp2_with fail
   go_ret
   exact ⟨rfl, CE.out⟩
  case pos =>
  have hm1 : (m : Int) < N := by omega
  obtain ⟨y, J, L, G, sr, vals, lv, T, ST, T0⟩ := Hm.out
  replace ST := Lib.hid ST
  replace T0 := Lib.hid T0
  clear Hm
  obtain ⟨a, ha⟩ : ∃ a, es[m]? = some a := ⟨_, List.getElem?_eq_getElem (by have := HN.out; omega)⟩
  obtain ⟨bl, o, rfl, hbl, RI⟩ := (HVN.out _ (CW.out.trans T0.out.chg)).at ha
  have RIF : Hid (∀ w', Chg [] w w' → WOpIn w' bl (o + m * 4) a) := fun w' c => by
   obtain ⟨bl2, o2, e2, _, r⟩ := (HVN.out _ c).at ha
   obtain ⟨rfl, rfl⟩ : bl = bl2 ∧ o = o2 := by simpa using e2
   exact r
  obtain ⟨x2, y2, e2⟩ := RI.s2.slice
  obtain ⟨x3, y3, e3⟩ := RI.s3.slice
  rw [List.length_map] at e3
  obtain ⟨K, hK⟩ : ∃ K, K = a.kind := ⟨_, rfl⟩
  obtain ⟨Z, hZ⟩ : ∃ Z, Z = a.num := ⟨_, rfl⟩
  have c0 := RI.c0
  have c1 := RI.c1
  have c2 := RI.c2
  have c3 := RI.c3
  rw [← hK] at c0
  rw [← hZ] at c1
  rw [e2] at c2
  rw [e3] at c3
  have HPB : Hid (∀ p ∈ a.pts, By p.d ∧ Cap p.v) := fun p hp => ⟨(RI.y2 p hp).1, (RI.y2 p hp).2⟩
  have HR1 : Hid (I64 Z) := by rw [hZ]; exact RI.r1
  have T1 : Hid (RKp w2 b W D R J y x sr vals lv T [blkT wr.heap.size 61 [.int .i64 K, .int .i64 Z, .slice x2 a.pts.length y2, .slice x3 a.keep.length y3]] (wr.alloc (.cells #[.int .i64 K, .int .i64 Z, .slice x2 a.pts.length y2, .slice x3 a.keep.length y3] 61))) := T0.out.push _ [_, _, _, _]
  have MEAS : Hid (N - (intOf (.int .i64 ((m : Int) + 1))).toNat < N - (intOf (.int .i64 (m : Int))).toNat) := meas_next hlt
  have HM5 := Lib.hid (show m ≤ 5000 by have := HNW.out; omega)
  have WAB := Lib.hid (sc_wrap (z := (m : Int) + 1) (by omega) (by have := HNW.out; omega))
  have IDLE : Hid (∀ w', RKp w2 b W D R J y x sr vals lv T [blkT wr.heap.size 61 [.int .i64 K, .int .i64 Z, .slice x2 a.pts.length y2, .slice x3 a.keep.length y3]] w' → KAll w w2 es n (m + 1) b W D R x k w') := fun w' h => ⟨_, _, _, _, _, _, _, _, ST.out.idle ha, h.pop⟩
  have BND := Lib.hid (kp_bounds ST.out HW.out HM5.out)
  by_cases k7 : K = 7
  ·have TR := rkp_trip T1.out Z HR1.out
   replace TR := Lib.hid TR
   have ENDT : Hid (∀ w', RKp w2 b W D R J (y.tripped Z) x sr vals lv T [blkT wr.heap.size 61 [.int .i64 K, .int .i64 Z, .slice x2 a.pts.length y2, .slice x3 a.keep.length y3]] w' → KAll w w2 es n (m + 1) b W D R x k w') := fun w' h => ⟨_, _, _, _, _, _, _, _, (ST.out.trip Z).idle ha, h.pop⟩
   subst k7
   clear RI RIF e2 e3 hbl HPB HR1 HVN HN ST T0 T1 IDLE BND hZ ha hK
   obtain ⟨wa, wb⟩ := WAB.out
   go_wp2_with (go_at_call 37; refine TR.out.mono ?_; rintro e w8 ⟨rfl, T8⟩; clear TR c0 c1 c2 c3; have z0 := (show Blk _ _ _ _ from T8.out.top).cell (j := 0) rfl)
   exact ⟨⟨m + 1, W, D, R, x, k, hlt, by first | rfl | (rw [Int.natCast_add]; rfl) | go_num, rfl, rfl, rfl, ENDT.out _ T8.out⟩, MEAS.out⟩
  have kb7 : (K == 7) = false := by simpa using k7
  by_cases k8 : K = 8
  ·obtain ⟨d, Jf, Lf, lowC, fnd, upC, hcd, hS, hpart, hgood, hL, hLf, hx1, hx2, again⟩ := kp_cut b ST.out HW.out HM5.out ha a.keep
   obtain ⟨YC, hYC⟩ : ∃ YC, YC = y.cut [a.keep] := ⟨_, rfl⟩
   rw [← hYC] at lowC fnd upC again
   have OP1F : Hid (∀ w', RKp w2 b W D R J YC x sr vals lv T [] w' → _) := fun w' h => rkp_open h (lowC.mono (by decide)) n2 (fnd _ upC upC)
   have OP2F : Hid (∀ W1 D1 R1 tv1 T1 y1 w', YC.Went y1 0 d (1 + Jf.S) 0 0 → RO1 w2 b W1 D1 R1 (Wl.begun 0 Jf.S ⟨Jf.ep, Jf.next - Lf.length, (Jf.t : Nat)⟩ Jf.u Jf.next) y1 x sr vals lv T T1 tv1 (Jf.next - Lf.length) [] w' → _) := fun W1 D1 R1 tv1 T1 y1 w' q h => ro1_open h ((went_low lowC q hcd).mono (by omega)) n2 (fnd y1 upC q.up)
   obtain ⟨JV, hJV⟩ : ∃ JV, JV = Wl.begun 0 Jf.S ⟨Jf.ep, Jf.next - Lf.length, (Jf.t : Nat)⟩ Jf.u Jf.next := ⟨_, rfl⟩
   have hJn : JV.next = Jf.next := by rw [hJV]; rfl
   rw [← hJV] at OP1F OP2F again
   obtain ⟨base, hbase⟩ : ∃ base, base = Jf.next - Lf.length := ⟨_, rfl⟩
   rw [← hbase] at OP1F OP2F
   have CUT := rkp_cut T1.out.pop CW.out x3 y3 a.keep (by rw [← e3]; exact (RIF.out w (Chg.refl _ _)).s3) (RIF.out w (Chg.refl _ _)).g3
   rw [← hYC, show (wr.alloc (.cells #[.int .i64 K, .int .i64 Z, .slice x2 a.pts.length y2, .slice x3 a.keep.length y3] 61)).heap.size = wr.heap.size + 1 from by simp] at CUT
   replace CUT := Lib.hid CUT
   replace again := Lib.hid again
   replace hpart := Lib.hid hpart
   replace hgood := Lib.hid hgood
   have NUM : Hid (L.length ≤ 20000 ∧ Lf.length ≤ 20000 ∧ Lf.length + 1 ≤ Jf.next ∧ Jf.next ≤ 11000 ∧ base = Jf.next - Lf.length ∧ JV.next = Jf.next) := ⟨hL, hLf, hx1, hx2, hbase, hJn⟩
   replace hcd := Lib.hid hcd
   subst k8
   clear RI RIF e2 e3 hbl HPB HR1 HVN HN T0 T1 IDLE BND hZ ha hK lowC fnd upC hS hL hLf hx1 hx2 hbase hJn hJV hYC
   go_upto_region 27 with (first
    | (go_at_call 19; refine CUT.out.mono ?_; rintro e wd ⟨rfl, Td⟩; clear CUT c0 c1 c2 c3; have OP1 := Lib.hid (OP1F.out _ Td.out); clear OP1F)
    | (go_at_call 40; refine OP1.out.mono ?_; rintro e wo ⟨W1, D1, R1, tv1, T1, y1, rfl, hf1, q1, O1⟩; clear OP1; have OP2 := Lib.hid (OP2F.out _ _ _ _ _ _ _ q1.out O1.out); clear OP2F)
    | (go_at_call 40; refine OP2.out.mono ?_; rintro e wp ⟨W2, tv2, T2, y2, rfl, hf2, q2, O2⟩; clear OP2 O1))
   obtain ⟨lo, lc, rfl⟩ := ro1_slice O2.out
   obtain ⟨TS, hTS⟩ : ∃ TS : World → Prop, TS = RO1 w2 b W1 D1 R1 JV y2 x sr vals lv T T1 (.slice lo T1.length lc) base (wideT 2 92 tv2 (txSlots base T2) :: poolWT 3 105 (listsOf T2) :: poolT (dataOf T2) :: []) := ⟨_, rfl⟩
   have TQ : ∀ w' w'', TS w' → Chg [] w' w'' → TS w'' := fun w' w'' h c => by rw [hTS] at h ⊢; exact h.quiet c
   have hQL : T1.length = Lf.length := by rw [← hf1.out, found_len]
   have MAY0 : Hid (∀ w', TS w' → Calls Tryz.prog 41 #[.pointer (some ⟨x, 0, none⟩), .slice lo T1.length lc, .int .i64 k] w' fun e w'' => e = .returned (.bool true) ∧ Chg [] w' w'') := fun w' h => by
    rw [hTS] at h
    exact ro1_may ST.out h CW.out hf1.out hpart.out hgood.out NUM.out.1 (by have := NUM.out; omega)
   have SAM0 : Hid (∀ w', TS w' → Calls Tryz.prog 42 #[.slice lo T1.length lc, tv2] w' fun e w'' => e = .returned (.bool true) ∧ Chg [] w' w'') := fun w' h => by
    rw [hTS] at h
    exact ro1_same h hf1.out hf2.out (by have := NUM.out; omega) hgood.out
   have NXT0 : Hid (∀ w', TS w' → Calls Tryz.prog 43 #[.pointer (some ⟨W1, 0, none⟩)] w' fun e w'' => e = .returned (.int .u64 (JV.next : Int)) ∧ Chg [] w' w'') := fun w' h => by
    rw [hTS] at h
    refine (ro1_next h).mono ?_
    rintro e w'' ⟨r, q, rfl⟩
    exact ⟨r, (Chg.refl [] w').drewN q⟩
   have T00 : Hid (TS wp.drew) := by rw [hTS]; exact O2.out.quiet ((Chg.refl [] wp).drewN 1)
   have CEL : Hid (∀ w', TS w' → ∀ j, j < T1.length → ∃ g, lo = some ⟨g, 0, none⟩ ∧ w'.cell? ⟨g, j * 2, none⟩ = some (.int .u64 ((base : Int) + j))) := fun w' h j hj => by
    rw [hTS] at h
    obtain ⟨g, c, e1, _, _, c0, _⟩ := ro1_cell h hj
    exact ⟨g, (Value.slice.inj e1).1, c0⟩
   have AGN : Hid (∀ w', TS w' → RKp w2 b W1 D1 R1 JV y2 w'.heap.size (T1.length : Nat) [] (.slice none 0 0) T1 [wideT 2 92 (.slice lo T1.length lc) (txSlots base T1)] (w'.alloc (.cells #[.slice none 0 0, .int .i64 (T1.length : Nat), .slice none 0 0] 81))) := fun w' h => by
    rw [hTS] at h
    exact h.fresh T1.length
   have KNX : Hid (KpSt w es T1 (Bay.new [2050]) n (m + 1) y2 JV Lf none Lf.length 0 (T1.map (·.1)) (.slice none 0 0)) := again.out y1 y2 T1 q1.out q2.out hf1.out n2
   obtain ⟨Q, hQ⟩ : ∃ Q, Q = T1.length := ⟨_, rfl⟩
   obtain ⟨NX, hNX⟩ : ∃ NX : Int, NX = (JV.next : Int) := ⟨_, rfl⟩
   rw [← hNX] at NXT0
   rw [← hQ] at MAY0 SAM0 CEL AGN hQL ⊢
   have NUM2 : Hid (Q ≤ 20000 ∧ NX = (base : Int) + Q ∧ 1 ≤ (base : Int) ∧ NX ≤ 11000) := ⟨by have := NUM.out; omega, by have := NUM.out; omega, by have := NUM.out; omega, by have := NUM.out; omega⟩
   have hn1 : ¬ NX < 1 := by have := NUM2.out; omega
   have HQT : Hid (Q = T1.length ∧ Q = Lf.length) := ⟨hQ, hQL⟩
   have hq0 : (0 : Int) ≤ Q := Int.natCast_nonneg _
   clear hTS hQL hQ hNX again hpart hgood NUM ST q1 q2 hf1 hf2 O2 hcd
   go_cut [158] from 117 to 158 (fun s158 wx => s158 = .bool false ∧ Hid (TS wx))
   case first =>
    clear AGN KNX
    by_cases hz : Q = 0
    ·subst hz
     have MAYF : Hid (∀ w', TS w' → Calls Tryz.prog 41 #[.pointer (some ⟨x, 0, none⟩), .slice lo 0 lc, .int .i64 k] w' (KGive TS (fun _ => True) (.bool true))) := fun w' h => kgive_of TQ (fun _ _ => trivial) h (MAY0.out w' h)
     have SAMF : Hid (∀ w', TS w' → Calls Tryz.prog 42 #[.slice lo 0 lc, tv2] w' (KGive TS (fun _ => True) (.bool true))) := fun w' h => kgive_of TQ (fun _ _ => trivial) h (SAM0.out w' h)
     have NXF : Hid (∀ w', TS w' → Calls Tryz.prog 43 #[.pointer (some ⟨W1, 0, none⟩)] w' (KGive TS (fun _ => True) (.int .u64 NX))) := fun w' h => kgive_of TQ (fun _ _ => trivial) h (NXT0.out w' h)
     clear MAY0 SAM0 NXT0 CEL TQ NUM2 HQT hq0
     refine wp_region_held_drew (S := (fun _ : World => True)) (by kernel_rfl) (trivial) (fun hHeld => ?_)
     refine wpAnyH_take (i := 0) (oi := _) (v := ?_) rfl (by kernel_rfl) (by kernel_rfl) (by kernel_rfl) (fun _ _ _ h => h) (Or.inl ⟨by rfl, ?_⟩) (by assumption) ?_
     rotate_left
     ·(intro w0' hSw; (try dsimp only at hSw); go_simp; try with_reducible rfl)
     change wpAnyH _ _ _ _ _ _ _ (Act.put _ (some 117) _) _
     try simp only [Act.put, List.setIfInBounds_toArray, List.set_cons_zero, List.set_cons_succ]
     refine wpAnyH_take (i := 1) (oi := _) (v := ?_) rfl (by kernel_rfl) (by kernel_rfl) (by kernel_rfl) (fun _ _ _ h => h) (Or.inl ⟨by rfl, ?_⟩) (by assumption) ?_
     rotate_left
     ·(intro w0' hSw; (try dsimp only at hSw); go_simp; try with_reducible rfl)
     change wpAnyH _ _ _ _ _ _ _ (Act.put _ (some 118) _) _
     try simp only [Act.put, List.setIfInBounds_toArray, List.set_cons_zero, List.set_cons_succ]
     refine wpAnyH_take (i := 2) (oi := _) (v := ?_) rfl (by kernel_rfl) (by kernel_rfl) (by kernel_rfl) (fun _ _ _ h => h) (Or.inl ⟨by rfl, ?_⟩) (by assumption) ?_
     rotate_left
     ·(intro w0' hSw; (try dsimp only at hSw); go_simp; try with_reducible rfl)
     change wpAnyH _ _ _ _ _ _ _ (Act.put _ (some 119) _) _
     try simp only [Act.put, List.setIfInBounds_toArray, List.set_cons_zero, List.set_cons_succ]
     refine wpAnyH_take (i := 3) (oi := _) (v := ?_) rfl (by kernel_rfl) (by kernel_rfl) (by kernel_rfl) (fun _ _ _ h => h) (Or.inl ⟨by rfl, ?_⟩) (by assumption) ?_
     rotate_left
     ·(intro w0' hSw; (try dsimp only at hSw); go_simp; try with_reducible rfl)
     change wpAnyH _ _ _ _ _ _ _ (Act.put _ (some 120) _) _
     try simp only [Act.put, List.setIfInBounds_toArray, List.set_cons_zero, List.set_cons_succ]
     refine wpAnyH_take (i := 4) (oi := _) (v := ?_) rfl (by kernel_rfl) (by kernel_rfl) (by kernel_rfl) (fun _ _ _ h => h) (Or.inl ⟨by rfl, ?_⟩) (by assumption) ?_
     rotate_left
     ·(intro w0' hSw; (try dsimp only at hSw); go_simp; try with_reducible rfl)
     change wpAnyH _ _ _ _ _ _ _ (Act.put _ (some 121) _) _
     try simp only [Act.put, List.setIfInBounds_toArray, List.set_cons_zero, List.set_cons_succ]
     refine wpAnyH_take (i := 5) (oi := _) (v := ?_) rfl (by kernel_rfl) (by kernel_rfl) (by kernel_rfl) (fun _ _ _ h => h) (Or.inl ⟨by rfl, ?_⟩) (by assumption) ?_
     rotate_left
     ·(intro w0' hSw; (try dsimp only at hSw); go_simp; try with_reducible rfl)
     change wpAnyH _ _ _ _ _ _ _ (Act.put _ (some 122) _) _
     try simp only [Act.put, List.setIfInBounds_toArray, List.set_cons_zero, List.set_cons_succ]
     refine wpAnyH_take (i := 6) (oi := _) (v := ?_) rfl (by kernel_rfl) (by kernel_rfl) (by kernel_rfl) (fun _ _ _ h => h) (Or.inl ⟨by rfl, ?_⟩) (by assumption) ?_
     rotate_left
     ·(intro w0' hSw; (try dsimp only at hSw); go_simp; try with_reducible rfl)
     change wpAnyH _ _ _ _ _ _ _ (Act.put _ (some 123) _) _
     try simp only [Act.put, List.setIfInBounds_toArray, List.set_cons_zero, List.set_cons_succ]
     refine wpAnyH_take (i := 7) (oi := _) (v := ?_) rfl (by kernel_rfl) (by kernel_rfl) (by kernel_rfl) (fun _ _ _ h => h) (Or.inl ⟨by rfl, ?_⟩) (by assumption) ?_
     rotate_left
     ·(intro w0' hSw; (try dsimp only at hSw); go_simp; try with_reducible rfl)
     change wpAnyH _ _ _ _ _ _ _ (Act.put _ (some 124) _) _
     try simp only [Act.put, List.setIfInBounds_toArray, List.set_cons_zero, List.set_cons_succ]
     refine wpAnyH_take (i := 8) (oi := _) (v := ?_) rfl (by kernel_rfl) (by kernel_rfl) (by kernel_rfl) (fun _ _ _ h => h) (Or.inl ⟨by rfl, ?_⟩) (by assumption) ?_
     rotate_left
     ·(intro w0' hSw; (try dsimp only at hSw); go_simp; try with_reducible rfl)
     change wpAnyH _ _ _ _ _ _ _ (Act.put _ (some 125) _) _
     try simp only [Act.put, List.setIfInBounds_toArray, List.set_cons_zero, List.set_cons_succ]
     refine wpAnyH_take (i := 9) (oi := _) (v := ?_) rfl (by kernel_rfl) (by kernel_rfl) (by kernel_rfl) (fun _ _ _ h => h) (Or.inl ⟨by rfl, ?_⟩) (by assumption) ?_
     rotate_left
     ·(intro w0' hSw; (try dsimp only at hSw); go_simp; try with_reducible rfl)
     change wpAnyH _ _ _ _ _ _ _ (Act.put _ (some 126) _) _
     try simp only [Act.put, List.setIfInBounds_toArray, List.set_cons_zero, List.set_cons_succ]
     refine wpAnyH_ready (rs := [10]) (by kernel_rfl) (by simp) ?_
     refine AllReadyH.cons (o := _) rfl (fun K' hK' => ?_) AllReadyH.nil
     go_simp
     (go_at_call 41; refine (MAYF.out _ T00.out).mono ?_; rintro e x1 ⟨rfl, K1, T01⟩)
     refine hK'.out _ _ (trivial) (fun hHeld => ?_)
     clear hK' K'
     try simp only [Act.put, List.setIfInBounds_toArray, List.set_cons_zero, List.set_cons_succ]
     refine wpAnyH_take (i := 11) (oi := _) (v := ?_) rfl (by kernel_rfl) (by kernel_rfl) (by kernel_rfl) (fun _ _ _ h => h) (Or.inl ⟨by rfl, ?_⟩) (by assumption) ?_
     rotate_left
     ·(intro w0' hSw; (try dsimp only at hSw); go_simp; try with_reducible rfl)
     change wpAnyH _ _ _ _ _ _ _ (Act.put _ (some 128) _) _
     try simp only [Act.put, List.setIfInBounds_toArray, List.set_cons_zero, List.set_cons_succ]
     refine wpAnyH_take (i := 12) (oi := _) (v := ?_) rfl (by kernel_rfl) (by kernel_rfl) (by kernel_rfl) (fun _ _ _ h => h) (Or.inl ⟨by rfl, ?_⟩) (by assumption) ?_
     rotate_left
     ·(intro w0' hSw; (try dsimp only at hSw); go_simp; try with_reducible rfl)
     change wpAnyH _ _ _ _ _ _ _ (Act.put _ (some 129) _) _
     try simp only [Act.put, List.setIfInBounds_toArray, List.set_cons_zero, List.set_cons_succ]
     refine wpAnyH_take (i := 13) (oi := _) (v := ?_) rfl (by kernel_rfl) (by kernel_rfl) (by kernel_rfl) (fun _ _ _ h => h) (Or.inl ⟨by rfl, ?_⟩) (by assumption) ?_
     rotate_left
     ·(intro w0' hSw; (try dsimp only at hSw); go_simp; try with_reducible rfl)
     change wpAnyH _ _ _ _ _ _ _ (Act.put _ (some 130) _) _
     try simp only [Act.put, List.setIfInBounds_toArray, List.set_cons_zero, List.set_cons_succ]
     refine wpAnyH_take (i := 14) (oi := _) (v := ?_) rfl (by kernel_rfl) (by kernel_rfl) (by kernel_rfl) (fun _ _ _ h => h) (Or.inl ⟨by rfl, ?_⟩) (by assumption) ?_
     rotate_left
     ·(intro w0' hSw; (try dsimp only at hSw); go_simp; try with_reducible rfl)
     change wpAnyH _ _ _ _ _ _ _ (Act.put _ (some 131) _) _
     try simp only [Act.put, List.setIfInBounds_toArray, List.set_cons_zero, List.set_cons_succ]
     refine wpAnyH_take (i := 15) (oi := _) (v := ?_) rfl (by kernel_rfl) (by kernel_rfl) (by kernel_rfl) (fun _ _ _ h => h) (Or.inl ⟨by rfl, ?_⟩) (by assumption) ?_
     rotate_left
     ·(intro w0' hSw; (try dsimp only at hSw); go_simp; try with_reducible rfl)
     change wpAnyH _ _ _ _ _ _ _ (Act.put _ (some 132) _) _
     try simp only [Act.put, List.setIfInBounds_toArray, List.set_cons_zero, List.set_cons_succ]
     refine wpAnyH_ready (rs := [16]) (by kernel_rfl) (by simp) ?_
     refine AllReadyH.cons (o := _) rfl (fun K' hK' => ?_) AllReadyH.nil
     go_simp
     (go_at_call 42; refine (SAMF.out _ T01.out).mono ?_; rintro e x2 ⟨rfl, K2, T02⟩)
     refine hK'.out _ _ (trivial) (fun hHeld => ?_)
     clear hK' K'
     try simp only [Act.put, List.setIfInBounds_toArray, List.set_cons_zero, List.set_cons_succ]
     refine wpAnyH_take (i := 17) (oi := _) (v := ?_) rfl (by kernel_rfl) (by kernel_rfl) (by kernel_rfl) (fun _ _ _ h => h) (Or.inl ⟨by rfl, ?_⟩) (by assumption) ?_
     rotate_left
     ·(intro w0' hSw; (try dsimp only at hSw); go_simp; try with_reducible rfl)
     change wpAnyH _ _ _ _ _ _ _ (Act.put _ (some 134) _) _
     try simp only [Act.put, List.setIfInBounds_toArray, List.set_cons_zero, List.set_cons_succ]
     refine wpAnyH_take (i := 18) (oi := _) (v := ?_) rfl (by kernel_rfl) (by kernel_rfl) (by kernel_rfl) (fun _ _ _ h => h) (Or.inl ⟨by rfl, ?_⟩) (by assumption) ?_
     rotate_left
     ·(intro w0' hSw; (try dsimp only at hSw); go_simp; try with_reducible rfl)
     change wpAnyH _ _ _ _ _ _ _ (Act.put _ (some 135) _) _
     try simp only [Act.put, List.setIfInBounds_toArray, List.set_cons_zero, List.set_cons_succ]
     refine wpAnyH_take (i := 19) (oi := _) (v := ?_) rfl (by kernel_rfl) (by kernel_rfl) (by kernel_rfl) (fun _ _ _ h => h) (Or.inl ⟨by rfl, ?_⟩) (by assumption) ?_
     rotate_left
     ·(intro w0' hSw; (try dsimp only at hSw); go_simp; try with_reducible rfl)
     change wpAnyH _ _ _ _ _ _ _ (Act.put _ (some 136) _) _
     try simp only [Act.put, List.setIfInBounds_toArray, List.set_cons_zero, List.set_cons_succ]
     refine wpAnyH_take (i := 20) (oi := _) (v := ?_) rfl (by kernel_rfl) (by kernel_rfl) (by kernel_rfl) (fun _ _ _ h => h) (Or.inl ⟨by rfl, ?_⟩) (by assumption) ?_
     rotate_left
     ·(intro w0' hSw; (try dsimp only at hSw); go_simp; try with_reducible rfl)
     change wpAnyH _ _ _ _ _ _ _ (Act.put _ (some 137) _) _
     try simp only [Act.put, List.setIfInBounds_toArray, List.set_cons_zero, List.set_cons_succ]
     refine wpAnyH_ready (rs := [21]) (by kernel_rfl) (by simp) ?_
     refine AllReadyH.cons (o := _) rfl (fun K' hK' => ?_) AllReadyH.nil
     go_simp
     (go_at_call 43; refine (NXF.out _ T02.out).mono ?_; rintro e x3 ⟨rfl, K3, T03⟩)
     refine hK'.out _ _ (trivial) (fun hHeld => ?_)
     clear hK' K'
     try simp only [Act.put, List.setIfInBounds_toArray, List.set_cons_zero, List.set_cons_succ]
     refine wpAnyH_take (i := 22) (oi := _) (v := ?_) rfl (by kernel_rfl) (by kernel_rfl) (by kernel_rfl) (fun _ _ _ h => h) (Or.inl ⟨by rfl, ?_⟩) (by assumption) ?_
     rotate_left
     ·(intro w0' hSw; (try dsimp only at hSw); go_simp; try with_reducible rfl)
     change wpAnyH _ _ _ _ _ _ _ (Act.put _ (some 139) _) _
     try simp only [Act.put, List.setIfInBounds_toArray, List.set_cons_zero, List.set_cons_succ]
     refine wpAnyH_take (i := 23) (oi := _) (v := ?_) rfl (by kernel_rfl) (by kernel_rfl) (by kernel_rfl) (fun _ _ _ h => h) (Or.inl ⟨by rfl, ?_⟩) (by assumption) ?_
     rotate_left
     ·(intro w0' hSw; (try dsimp only at hSw); go_simp; try with_reducible rfl)
     change wpAnyH _ _ _ _ _ _ _ (Act.put _ (some 140) _) _
     try simp only [Act.put, List.setIfInBounds_toArray, List.set_cons_zero, List.set_cons_succ]
     refine wpAnyH_take (i := 24) (oi := _) (v := ?_) rfl (by kernel_rfl) (by kernel_rfl) (by kernel_rfl) (fun _ _ _ h => h) (Or.inl ⟨by rfl, ?_⟩) (by assumption) ?_
     rotate_left
     ·(intro w0' hSw; (try dsimp only at hSw); go_simp; try with_reducible rfl)
     change wpAnyH _ _ _ _ _ _ _ (Act.put _ (some 141) _) _
     try simp only [Act.put, List.setIfInBounds_toArray, List.set_cons_zero, List.set_cons_succ]
     refine wpAnyH_take (i := 25) (oi := _) (v := ?_) rfl (by kernel_rfl) (by kernel_rfl) (by kernel_rfl) (fun _ _ _ h => h) (Or.inl ⟨by rfl, ?_⟩) (by assumption) ?_
     rotate_left
     ·(intro w0' hSw; (try dsimp only at hSw); go_simp; try with_reducible rfl)
     change wpAnyH _ _ _ _ _ _ _ (Act.put _ (some 142) _) _
     try simp only [Act.put, List.setIfInBounds_toArray, List.set_cons_zero, List.set_cons_succ]
     refine wpAnyH_take (i := 26) (oi := _) (v := ?_) rfl (by kernel_rfl) (by kernel_rfl) (by kernel_rfl) (fun _ _ _ h => h) (Or.inl ⟨by rfl, ?_⟩) (by assumption) ?_
     rotate_left
     ·(intro w0' hSw; (try dsimp only at hSw); go_simp; try with_reducible rfl)
     change wpAnyH _ _ _ _ _ _ _ (Act.put _ (some 143) _) _
     try simp only [Act.put, List.setIfInBounds_toArray, List.set_cons_zero, List.set_cons_succ]
     refine wpAnyH_take (i := 27) (oi := _) (v := ?_) rfl (by kernel_rfl) (by kernel_rfl) (by kernel_rfl) (fun _ _ _ h => h) (Or.inl ⟨by rfl, ?_⟩) (by assumption) ?_
     rotate_left
     ·(intro w0' hSw; (try dsimp only at hSw); go_simp; try with_reducible rfl)
     change wpAnyH _ _ _ _ _ _ _ (Act.put _ (some 144) _) _
     try simp only [Act.put, List.setIfInBounds_toArray, List.set_cons_zero, List.set_cons_succ]
     refine wpAnyH_take (i := 28) (oi := _) (v := ?_) rfl (by kernel_rfl) (by kernel_rfl) (by kernel_rfl) (fun _ _ _ h => h) (Or.inl ⟨by rfl, ?_⟩) (by assumption) ?_
     rotate_left
     ·(intro w0' hSw; (try dsimp only at hSw); go_simp; try with_reducible rfl)
     change wpAnyH _ _ _ _ _ _ _ (Act.put _ (some 145) _) _
     try simp only [Act.put, List.setIfInBounds_toArray, List.set_cons_zero, List.set_cons_succ]
     refine wpAnyH_take (i := 29) (oi := _) (v := undef) rfl (by kernel_rfl) (by kernel_rfl) (by kernel_rfl) (fun _ _ _ h => h) (Or.inr ⟨by rfl, rfl⟩) (by assumption) ?_
     change wpAnyH _ _ _ _ _ _ _ (Act.put _ (some 146) _) _
     try simp only [Act.put, List.setIfInBounds_toArray, List.set_cons_zero, List.set_cons_succ]
     refine wpAnyH_take (i := 31) (oi := _) (v := undef) rfl (by kernel_rfl) (by kernel_rfl) (by kernel_rfl) (fun _ _ _ h => h) (Or.inr ⟨by rfl, rfl⟩) (by assumption) ?_
     change wpAnyH _ _ _ _ _ _ _ (Act.put _ (some 148) _) _
     try simp only [Act.put, List.setIfInBounds_toArray, List.set_cons_zero, List.set_cons_succ]
     refine wpAnyH_take (i := 32) (oi := _) (v := undef) rfl (by kernel_rfl) (by kernel_rfl) (by kernel_rfl) (fun _ _ _ h => h) (Or.inr ⟨by rfl, rfl⟩) (by assumption) ?_
     change wpAnyH _ _ _ _ _ _ _ (Act.put _ (some 149) _) _
     try simp only [Act.put, List.setIfInBounds_toArray, List.set_cons_zero, List.set_cons_succ]
     refine wpAnyH_take (i := 33) (oi := _) (v := undef) rfl (by kernel_rfl) (by kernel_rfl) (by kernel_rfl) (fun _ _ _ h => h) (Or.inr ⟨by rfl, rfl⟩) (by assumption) ?_
     change wpAnyH _ _ _ _ _ _ _ (Act.put _ (some 150) _) _
     try simp only [Act.put, List.setIfInBounds_toArray, List.set_cons_zero, List.set_cons_succ]
     refine wpAnyH_take (i := 34) (oi := _) (v := undef) rfl (by kernel_rfl) (by kernel_rfl) (by kernel_rfl) (fun _ _ _ h => h) (Or.inr ⟨by rfl, rfl⟩) (by assumption) ?_
     change wpAnyH _ _ _ _ _ _ _ (Act.put _ (some 151) _) _
     try simp only [Act.put, List.setIfInBounds_toArray, List.set_cons_zero, List.set_cons_succ]
     refine wpAnyH_take (i := 35) (oi := _) (v := undef) rfl (by kernel_rfl) (by kernel_rfl) (by kernel_rfl) (fun _ _ _ h => h) (Or.inr ⟨by rfl, rfl⟩) (by assumption) ?_
     change wpAnyH _ _ _ _ _ _ _ (Act.put _ (some 152) _) _
     try simp only [Act.put, List.setIfInBounds_toArray, List.set_cons_zero, List.set_cons_succ]
     refine wpAnyH_take (i := 36) (oi := _) (v := undef) rfl (by kernel_rfl) (by kernel_rfl) (by kernel_rfl) (fun _ _ _ h => h) (Or.inr ⟨by rfl, rfl⟩) (by assumption) ?_
     change wpAnyH _ _ _ _ _ _ _ (Act.put _ (some 153) _) _
     try simp only [Act.put, List.setIfInBounds_toArray, List.set_cons_zero, List.set_cons_succ]
     refine wpAnyH_take (i := 37) (oi := _) (v := undef) rfl (by kernel_rfl) (by kernel_rfl) (by kernel_rfl) (fun _ _ _ h => h) (Or.inr ⟨by rfl, rfl⟩) (by assumption) ?_
     change wpAnyH _ _ _ _ _ _ _ (Act.put _ (some 154) _) _
     try simp only [Act.put, List.setIfInBounds_toArray, List.set_cons_zero, List.set_cons_succ]
     refine wpAnyH_take (i := 38) (oi := _) (v := undef) rfl (by kernel_rfl) (by kernel_rfl) (by kernel_rfl) (fun _ _ _ h => h) (Or.inr ⟨by rfl, rfl⟩) (by assumption) ?_
     change wpAnyH _ _ _ _ _ _ _ (Act.put _ (some 155) _) _
     try simp only [Act.put, List.setIfInBounds_toArray, List.set_cons_zero, List.set_cons_succ]
     refine wpAnyH_ready (rs := [30]) (by kernel_rfl) (by simp) ?_
     refine AllReadyH.cons (o := _) rfl (fun K' hK' => ?_) AllReadyH.nil
     rw [if_neg (by exact Bool.false_ne_true)]
     refine hK'.out _ _ (by assumption) (fun hHeld => ?_)
     clear hK' K'
     change wpAnyH _ _ _ _ _ _ _ (Act.put _ (some 147) _) _
     try simp only [Act.put, List.setIfInBounds_toArray, List.set_cons_zero, List.set_cons_succ]
     refine wpAnyH_take (i := 39) (oi := _) (v := undef) rfl (by kernel_rfl) (by kernel_rfl) (by kernel_rfl) (fun _ _ _ h => h) (Or.inr ⟨by rfl, rfl⟩) (by assumption) ?_
     change wpAnyH _ _ _ _ _ _ _ (Act.put _ (some 156) _) _
     try simp only [Act.put, List.setIfInBounds_toArray, List.set_cons_zero, List.set_cons_succ]
     refine wpAnyH_take (i := 40) (oi := _) (v := ?_) rfl (by kernel_rfl) (by kernel_rfl) (by kernel_rfl) (fun _ _ _ h => h) (Or.inl ⟨by rfl, ?_⟩) (by assumption) ?_
     rotate_left
     ·(intro w0' hSw; (try dsimp only at hSw); go_simp; try with_reducible rfl)
     change wpAnyH _ _ _ _ _ _ _ (Act.put _ (some 157) _) _
     try simp only [Act.put, List.setIfInBounds_toArray, List.set_cons_zero, List.set_cons_succ]
     refine wpAnyH_take (i := 41) (oi := _) (v := ?_) rfl (by kernel_rfl) (by kernel_rfl) (by kernel_rfl) (fun _ _ _ h => h) (Or.inl ⟨by rfl, ?_⟩) (by assumption) ?_
     rotate_left
     ·(intro w0' hSw; (try dsimp only at hSw); go_simp; try with_reducible rfl)
     change wpAnyH _ _ _ _ _ _ _ (Act.put _ (some 158) _) _
     try simp only [Act.put, List.setIfInBounds_toArray, List.set_cons_zero, List.set_cons_succ]
     refine wpAnyH_done (by kernel_rfl) ?_ _
     go_wp2_with fail
     go_meet
     exact ⟨rfl, T03⟩
    ·obtain ⟨g, rfl, _⟩ := CEL.out _ T00.out 0 (by have := HQT.out; omega)
     obtain ⟨I, hI⟩ : ∃ I : Int, I = (Q : Int) - 1 := ⟨_, rfl⟩
     obtain ⟨SQ, hSQ⟩ : ∃ SQ : Int, SQ = NX - 1 := ⟨_, rfl⟩
     obtain ⟨KP, hKP⟩ : ∃ KP : World → Prop, KP = fun w' => w'.cell? ⟨g, I.toNat * 2, none⟩ = some (.int .u64 SQ) := ⟨_, rfl⟩
     have KS : Hid (∀ w', KP w' → w'.cell? ⟨g, I.toNat * 2, none⟩ = some (.int .u64 SQ)) := fun w' h => by rw [hKP] at h; exact h
     have TK : ∀ w', TS w' → KP w' := fun w' h => by
      obtain ⟨g', e, c⟩ := CEL.out w' h I.toNat (by have := HQT.out; omega)
      obtain rfl : g = g' := by simpa using e
      rw [hKP]
      show w'.cell? _ = _
      rw [c]
      congr 2
      have := NUM2.out
      omega
     have MAYF : Hid (∀ w', TS w' → Calls Tryz.prog 41 #[.pointer (some ⟨x, 0, none⟩), .slice (some ⟨g, 0, none⟩) Q lc, .int .i64 k] w' (KGive TS KP (.bool true))) := fun w' h => kgive_of TQ TK h (MAY0.out w' h)
     have SAMF : Hid (∀ w', TS w' → Calls Tryz.prog 42 #[.slice (some ⟨g, 0, none⟩) Q lc, tv2] w' (KGive TS KP (.bool true))) := fun w' h => kgive_of TQ TK h (SAM0.out w' h)
     have NXF : Hid (∀ w', TS w' → Calls Tryz.prog 43 #[.pointer (some ⟨W1, 0, none⟩)] w' (KGive TS KP (.int .u64 NX))) := fun w' h => kgive_of TQ TK h (NXT0.out w' h)
     have K0 : Hid (KP wp.drew) := TK _ T00.out
     have hi0 : (0 : Int) ≤ I := by omega
     have hi1 : I < (Q : Int) := by omega
     have hq2 : decide ((0 : Int) < (Q : Int)) = true := decide_eq_true (by omega)
     have hq3 : 0 < Q := by omega
     have ws : IntKind.u64.wrap (SQ + 1) = NX := by rw [IntKind.wrap_u64]; have := NUM2.out; omega
     have wi : IntKind.i64.wrap ((Q : Int) - 1) = I ∧ wrap64 ((Q : Int) - 1) = I := by
      obtain ⟨u1, u2⟩ := sc_wrap (z := (Q : Int) - 1) (by omega) (by have := NUM2.out; omega)
      rw [u1, u2]
      exact ⟨hI.symm, hI.symm⟩
     obtain ⟨wi1, wi2⟩ := wi
     clear MAY0 SAM0 NXT0 CEL TQ TK NUM2 HQT hKP hI hSQ hz
     refine wp_region_held_drew (S := (fun w' : World => w'.cell? ⟨g, I.toNat * 2, none⟩ = some (.int .u64 SQ))) (by kernel_rfl) (KS.out _ K0.out) (fun hHeld => ?_)
     refine wpAnyH_take (i := 0) (oi := _) (v := ?_) rfl (by kernel_rfl) (by kernel_rfl) (by kernel_rfl) (fun _ _ _ h => h) (Or.inl ⟨by rfl, ?_⟩) (by assumption) ?_
     rotate_left
     ·(intro w0' hSw; (try dsimp only at hSw); go_simp; try with_reducible rfl)
     change wpAnyH _ _ _ _ _ _ _ (Act.put _ (some 117) _) _
     try simp only [Act.put, List.setIfInBounds_toArray, List.set_cons_zero, List.set_cons_succ]
     refine wpAnyH_take (i := 1) (oi := _) (v := ?_) rfl (by kernel_rfl) (by kernel_rfl) (by kernel_rfl) (fun _ _ _ h => h) (Or.inl ⟨by rfl, ?_⟩) (by assumption) ?_
     rotate_left
     ·(intro w0' hSw; (try dsimp only at hSw); go_simp; try with_reducible rfl)
     change wpAnyH _ _ _ _ _ _ _ (Act.put _ (some 118) _) _
     try simp only [Act.put, List.setIfInBounds_toArray, List.set_cons_zero, List.set_cons_succ]
     refine wpAnyH_take (i := 2) (oi := _) (v := ?_) rfl (by kernel_rfl) (by kernel_rfl) (by kernel_rfl) (fun _ _ _ h => h) (Or.inl ⟨by rfl, ?_⟩) (by assumption) ?_
     rotate_left
     ·(intro w0' hSw; (try dsimp only at hSw); go_simp; try with_reducible rfl)
     change wpAnyH _ _ _ _ _ _ _ (Act.put _ (some 119) _) _
     try simp only [Act.put, List.setIfInBounds_toArray, List.set_cons_zero, List.set_cons_succ]
     refine wpAnyH_take (i := 3) (oi := _) (v := ?_) rfl (by kernel_rfl) (by kernel_rfl) (by kernel_rfl) (fun _ _ _ h => h) (Or.inl ⟨by rfl, ?_⟩) (by assumption) ?_
     rotate_left
     ·(intro w0' hSw; (try dsimp only at hSw); go_simp; try with_reducible rfl)
     change wpAnyH _ _ _ _ _ _ _ (Act.put _ (some 120) _) _
     try simp only [Act.put, List.setIfInBounds_toArray, List.set_cons_zero, List.set_cons_succ]
     refine wpAnyH_take (i := 4) (oi := _) (v := ?_) rfl (by kernel_rfl) (by kernel_rfl) (by kernel_rfl) (fun _ _ _ h => h) (Or.inl ⟨by rfl, ?_⟩) (by assumption) ?_
     rotate_left
     ·(intro w0' hSw; (try dsimp only at hSw); go_simp; try with_reducible rfl)
     change wpAnyH _ _ _ _ _ _ _ (Act.put _ (some 121) _) _
     try simp only [Act.put, List.setIfInBounds_toArray, List.set_cons_zero, List.set_cons_succ]
     refine wpAnyH_take (i := 5) (oi := _) (v := ?_) rfl (by kernel_rfl) (by kernel_rfl) (by kernel_rfl) (fun _ _ _ h => h) (Or.inl ⟨by rfl, ?_⟩) (by assumption) ?_
     rotate_left
     ·(intro w0' hSw; (try dsimp only at hSw); go_simp; try with_reducible rfl)
     change wpAnyH _ _ _ _ _ _ _ (Act.put _ (some 122) _) _
     try simp only [Act.put, List.setIfInBounds_toArray, List.set_cons_zero, List.set_cons_succ]
     refine wpAnyH_take (i := 6) (oi := _) (v := ?_) rfl (by kernel_rfl) (by kernel_rfl) (by kernel_rfl) (fun _ _ _ h => h) (Or.inl ⟨by rfl, ?_⟩) (by assumption) ?_
     rotate_left
     ·(intro w0' hSw; (try dsimp only at hSw); go_simp; try with_reducible rfl)
     change wpAnyH _ _ _ _ _ _ _ (Act.put _ (some 123) _) _
     try simp only [Act.put, List.setIfInBounds_toArray, List.set_cons_zero, List.set_cons_succ]
     refine wpAnyH_take (i := 7) (oi := _) (v := ?_) rfl (by kernel_rfl) (by kernel_rfl) (by kernel_rfl) (fun _ _ _ h => h) (Or.inl ⟨by rfl, ?_⟩) (by assumption) ?_
     rotate_left
     ·(intro w0' hSw; (try dsimp only at hSw); go_simp; try with_reducible rfl)
     change wpAnyH _ _ _ _ _ _ _ (Act.put _ (some 124) _) _
     try simp only [Act.put, List.setIfInBounds_toArray, List.set_cons_zero, List.set_cons_succ]
     refine wpAnyH_take (i := 8) (oi := _) (v := ?_) rfl (by kernel_rfl) (by kernel_rfl) (by kernel_rfl) (fun _ _ _ h => h) (Or.inl ⟨by rfl, ?_⟩) (by assumption) ?_
     rotate_left
     ·(intro w0' hSw; (try dsimp only at hSw); go_simp; try with_reducible rfl)
     change wpAnyH _ _ _ _ _ _ _ (Act.put _ (some 125) _) _
     try simp only [Act.put, List.setIfInBounds_toArray, List.set_cons_zero, List.set_cons_succ]
     refine wpAnyH_take (i := 9) (oi := _) (v := ?_) rfl (by kernel_rfl) (by kernel_rfl) (by kernel_rfl) (fun _ _ _ h => h) (Or.inl ⟨by rfl, ?_⟩) (by assumption) ?_
     rotate_left
     ·(intro w0' hSw; (try dsimp only at hSw); go_simp; try with_reducible rfl)
     change wpAnyH _ _ _ _ _ _ _ (Act.put _ (some 126) _) _
     try simp only [Act.put, List.setIfInBounds_toArray, List.set_cons_zero, List.set_cons_succ]
     refine wpAnyH_ready (rs := [10]) (by kernel_rfl) (by simp) ?_
     refine AllReadyH.cons (o := _) rfl (fun K' hK' => ?_) AllReadyH.nil
     go_simp
     (go_at_call 41; refine (MAYF.out _ T00.out).mono ?_; rintro e x1 ⟨rfl, K1, T01⟩)
     refine hK'.out _ _ (KS.out _ K1.out) (fun hHeld => ?_)
     clear hK' K'
     try simp only [Act.put, List.setIfInBounds_toArray, List.set_cons_zero, List.set_cons_succ]
     refine wpAnyH_take (i := 11) (oi := _) (v := ?_) rfl (by kernel_rfl) (by kernel_rfl) (by kernel_rfl) (fun _ _ _ h => h) (Or.inl ⟨by rfl, ?_⟩) (by assumption) ?_
     rotate_left
     ·(intro w0' hSw; (try dsimp only at hSw); go_simp; try with_reducible rfl)
     change wpAnyH _ _ _ _ _ _ _ (Act.put _ (some 128) _) _
     try simp only [Act.put, List.setIfInBounds_toArray, List.set_cons_zero, List.set_cons_succ]
     refine wpAnyH_take (i := 12) (oi := _) (v := ?_) rfl (by kernel_rfl) (by kernel_rfl) (by kernel_rfl) (fun _ _ _ h => h) (Or.inl ⟨by rfl, ?_⟩) (by assumption) ?_
     rotate_left
     ·(intro w0' hSw; (try dsimp only at hSw); go_simp; try with_reducible rfl)
     change wpAnyH _ _ _ _ _ _ _ (Act.put _ (some 129) _) _
     try simp only [Act.put, List.setIfInBounds_toArray, List.set_cons_zero, List.set_cons_succ]
     refine wpAnyH_take (i := 13) (oi := _) (v := ?_) rfl (by kernel_rfl) (by kernel_rfl) (by kernel_rfl) (fun _ _ _ h => h) (Or.inl ⟨by rfl, ?_⟩) (by assumption) ?_
     rotate_left
     ·(intro w0' hSw; (try dsimp only at hSw); go_simp; try with_reducible rfl)
     change wpAnyH _ _ _ _ _ _ _ (Act.put _ (some 130) _) _
     try simp only [Act.put, List.setIfInBounds_toArray, List.set_cons_zero, List.set_cons_succ]
     refine wpAnyH_take (i := 14) (oi := _) (v := ?_) rfl (by kernel_rfl) (by kernel_rfl) (by kernel_rfl) (fun _ _ _ h => h) (Or.inl ⟨by rfl, ?_⟩) (by assumption) ?_
     rotate_left
     ·(intro w0' hSw; (try dsimp only at hSw); go_simp; try with_reducible rfl)
     change wpAnyH _ _ _ _ _ _ _ (Act.put _ (some 131) _) _
     try simp only [Act.put, List.setIfInBounds_toArray, List.set_cons_zero, List.set_cons_succ]
     refine wpAnyH_take (i := 15) (oi := _) (v := ?_) rfl (by kernel_rfl) (by kernel_rfl) (by kernel_rfl) (fun _ _ _ h => h) (Or.inl ⟨by rfl, ?_⟩) (by assumption) ?_
     rotate_left
     ·(intro w0' hSw; (try dsimp only at hSw); go_simp; try with_reducible rfl)
     change wpAnyH _ _ _ _ _ _ _ (Act.put _ (some 132) _) _
     try simp only [Act.put, List.setIfInBounds_toArray, List.set_cons_zero, List.set_cons_succ]
     refine wpAnyH_ready (rs := [16]) (by kernel_rfl) (by simp) ?_
     refine AllReadyH.cons (o := _) rfl (fun K' hK' => ?_) AllReadyH.nil
     go_simp
     (go_at_call 42; refine (SAMF.out _ T01.out).mono ?_; rintro e x2 ⟨rfl, K2, T02⟩)
     refine hK'.out _ _ (KS.out _ K2.out) (fun hHeld => ?_)
     clear hK' K'
     try simp only [Act.put, List.setIfInBounds_toArray, List.set_cons_zero, List.set_cons_succ]
     refine wpAnyH_take (i := 17) (oi := _) (v := ?_) rfl (by kernel_rfl) (by kernel_rfl) (by kernel_rfl) (fun _ _ _ h => h) (Or.inl ⟨by rfl, ?_⟩) (by assumption) ?_
     rotate_left
     ·(intro w0' hSw; (try dsimp only at hSw); go_simp; try with_reducible rfl)
     change wpAnyH _ _ _ _ _ _ _ (Act.put _ (some 134) _) _
     try simp only [Act.put, List.setIfInBounds_toArray, List.set_cons_zero, List.set_cons_succ]
     refine wpAnyH_take (i := 18) (oi := _) (v := ?_) rfl (by kernel_rfl) (by kernel_rfl) (by kernel_rfl) (fun _ _ _ h => h) (Or.inl ⟨by rfl, ?_⟩) (by assumption) ?_
     rotate_left
     ·(intro w0' hSw; (try dsimp only at hSw); go_simp; try with_reducible rfl)
     change wpAnyH _ _ _ _ _ _ _ (Act.put _ (some 135) _) _
     try simp only [Act.put, List.setIfInBounds_toArray, List.set_cons_zero, List.set_cons_succ]
     refine wpAnyH_take (i := 19) (oi := _) (v := ?_) rfl (by kernel_rfl) (by kernel_rfl) (by kernel_rfl) (fun _ _ _ h => h) (Or.inl ⟨by rfl, ?_⟩) (by assumption) ?_
     rotate_left
     ·(intro w0' hSw; (try dsimp only at hSw); go_simp; try with_reducible rfl)
     change wpAnyH _ _ _ _ _ _ _ (Act.put _ (some 136) _) _
     try simp only [Act.put, List.setIfInBounds_toArray, List.set_cons_zero, List.set_cons_succ]
     refine wpAnyH_take (i := 20) (oi := _) (v := ?_) rfl (by kernel_rfl) (by kernel_rfl) (by kernel_rfl) (fun _ _ _ h => h) (Or.inl ⟨by rfl, ?_⟩) (by assumption) ?_
     rotate_left
     ·(intro w0' hSw; (try dsimp only at hSw); go_simp; try with_reducible rfl)
     change wpAnyH _ _ _ _ _ _ _ (Act.put _ (some 137) _) _
     try simp only [Act.put, List.setIfInBounds_toArray, List.set_cons_zero, List.set_cons_succ]
     refine wpAnyH_ready (rs := [21]) (by kernel_rfl) (by simp) ?_
     refine AllReadyH.cons (o := _) rfl (fun K' hK' => ?_) AllReadyH.nil
     go_simp
     (go_at_call 43; refine (NXF.out _ T02.out).mono ?_; rintro e x3 ⟨rfl, K3, T03⟩)
     refine hK'.out _ _ (KS.out _ K3.out) (fun hHeld => ?_)
     clear hK' K'
     try simp only [Act.put, List.setIfInBounds_toArray, List.set_cons_zero, List.set_cons_succ]
     refine wpAnyH_take (i := 22) (oi := _) (v := ?_) rfl (by kernel_rfl) (by kernel_rfl) (by kernel_rfl) (fun _ _ _ h => h) (Or.inl ⟨by rfl, ?_⟩) (by assumption) ?_
     rotate_left
     ·(intro w0' hSw; (try dsimp only at hSw); go_simp; try with_reducible rfl)
     change wpAnyH _ _ _ _ _ _ _ (Act.put _ (some 139) _) _
     try simp only [Act.put, List.setIfInBounds_toArray, List.set_cons_zero, List.set_cons_succ]
     refine wpAnyH_take (i := 23) (oi := _) (v := ?_) rfl (by kernel_rfl) (by kernel_rfl) (by kernel_rfl) (fun _ _ _ h => h) (Or.inl ⟨by rfl, ?_⟩) (by assumption) ?_
     rotate_left
     ·(intro w0' hSw; (try dsimp only at hSw); go_simp; try with_reducible rfl)
     change wpAnyH _ _ _ _ _ _ _ (Act.put _ (some 140) _) _
     try simp only [Act.put, List.setIfInBounds_toArray, List.set_cons_zero, List.set_cons_succ]
     refine wpAnyH_take (i := 24) (oi := _) (v := ?_) rfl (by kernel_rfl) (by kernel_rfl) (by kernel_rfl) (fun _ _ _ h => h) (Or.inl ⟨by rfl, ?_⟩) (by assumption) ?_
     rotate_left
     ·(intro w0' hSw; (try dsimp only at hSw); go_simp; try with_reducible rfl)
     change wpAnyH _ _ _ _ _ _ _ (Act.put _ (some 141) _) _
     try simp only [Act.put, List.setIfInBounds_toArray, List.set_cons_zero, List.set_cons_succ]
     refine wpAnyH_take (i := 25) (oi := _) (v := ?_) rfl (by kernel_rfl) (by kernel_rfl) (by kernel_rfl) (fun _ _ _ h => h) (Or.inl ⟨by rfl, ?_⟩) (by assumption) ?_
     rotate_left
     ·(intro w0' hSw; (try dsimp only at hSw); go_simp; try with_reducible rfl)
     change wpAnyH _ _ _ _ _ _ _ (Act.put _ (some 142) _) _
     try simp only [Act.put, List.setIfInBounds_toArray, List.set_cons_zero, List.set_cons_succ]
     refine wpAnyH_take (i := 26) (oi := _) (v := ?_) rfl (by kernel_rfl) (by kernel_rfl) (by kernel_rfl) (fun _ _ _ h => h) (Or.inl ⟨by rfl, ?_⟩) (by assumption) ?_
     rotate_left
     ·(intro w0' hSw; (try dsimp only at hSw); go_simp; try with_reducible rfl)
     change wpAnyH _ _ _ _ _ _ _ (Act.put _ (some 143) _) _
     try simp only [Act.put, List.setIfInBounds_toArray, List.set_cons_zero, List.set_cons_succ]
     refine wpAnyH_take (i := 27) (oi := _) (v := ?_) rfl (by kernel_rfl) (by kernel_rfl) (by kernel_rfl) (fun _ _ _ h => h) (Or.inl ⟨by rfl, ?_⟩) (by assumption) ?_
     rotate_left
     ·(intro w0' hSw; (try dsimp only at hSw); go_simp; try with_reducible rfl)
     change wpAnyH _ _ _ _ _ _ _ (Act.put _ (some 144) _) _
     try simp only [Act.put, List.setIfInBounds_toArray, List.set_cons_zero, List.set_cons_succ]
     refine wpAnyH_take (i := 28) (oi := _) (v := ?_) rfl (by kernel_rfl) (by kernel_rfl) (by kernel_rfl) (fun _ _ _ h => h) (Or.inl ⟨by rfl, ?_⟩) (by assumption) ?_
     rotate_left
     ·(intro w0' hSw; (try dsimp only at hSw); go_simp; try with_reducible rfl)
     change wpAnyH _ _ _ _ _ _ _ (Act.put _ (some 145) _) _
     try simp only [Act.put, List.setIfInBounds_toArray, List.set_cons_zero, List.set_cons_succ]
     refine wpAnyH_take (i := 29) (oi := _) (v := ?_) rfl (by kernel_rfl) (by kernel_rfl) (by kernel_rfl) (fun _ _ _ h => h) (Or.inl ⟨by rfl, ?_⟩) (by assumption) ?_
     rotate_left
     ·(intro w0' hSw; (try dsimp only at hSw); go_simp; try with_reducible rfl)
     change wpAnyH _ _ _ _ _ _ _ (Act.put _ (some 146) _) _
     try simp only [Act.put, List.setIfInBounds_toArray, List.set_cons_zero, List.set_cons_succ]
     refine wpAnyH_take (i := 31) (oi := _) (v := ?_) rfl (by kernel_rfl) (by kernel_rfl) (by kernel_rfl) (fun _ _ _ h => h) (Or.inl ⟨by rfl, ?_⟩) (by assumption) ?_
     rotate_left
     ·(intro w0' hSw; (try dsimp only at hSw); go_simp; try with_reducible rfl)
     change wpAnyH _ _ _ _ _ _ _ (Act.put _ (some 148) _) _
     try simp only [Act.put, List.setIfInBounds_toArray, List.set_cons_zero, List.set_cons_succ]
     refine wpAnyH_take (i := 32) (oi := _) (v := ?_) rfl (by kernel_rfl) (by kernel_rfl) (by kernel_rfl) (fun _ _ _ h => h) (Or.inl ⟨by rfl, ?_⟩) (by assumption) ?_
     rotate_left
     ·(intro w0' hSw; (try dsimp only at hSw); go_simp; try with_reducible rfl)
     change wpAnyH _ _ _ _ _ _ _ (Act.put _ (some 149) _) _
     try simp only [Act.put, List.setIfInBounds_toArray, List.set_cons_zero, List.set_cons_succ]
     refine wpAnyH_take (i := 33) (oi := _) (v := ?_) rfl (by kernel_rfl) (by kernel_rfl) (by kernel_rfl) (fun _ _ _ h => h) (Or.inl ⟨by rfl, ?_⟩) (by assumption) ?_
     rotate_left
     ·(intro w0' hSw; (try dsimp only at hSw); go_simp; try with_reducible rfl)
     change wpAnyH _ _ _ _ _ _ _ (Act.put _ (some 150) _) _
     try simp only [Act.put, List.setIfInBounds_toArray, List.set_cons_zero, List.set_cons_succ]
     refine wpAnyH_take (i := 34) (oi := _) (v := ?_) rfl (by kernel_rfl) (by kernel_rfl) (by kernel_rfl) (fun _ _ _ h => h) (Or.inl ⟨by rfl, ?_⟩) (by assumption) ?_
     rotate_left
     ·(intro w0' hSw; (try dsimp only at hSw); go_simp; try with_reducible rfl)
     change wpAnyH _ _ _ _ _ _ _ (Act.put _ (some 151) _) _
     try simp only [Act.put, List.setIfInBounds_toArray, List.set_cons_zero, List.set_cons_succ]
     refine wpAnyH_take (i := 35) (oi := _) (v := ?_) rfl (by kernel_rfl) (by kernel_rfl) (by kernel_rfl) (fun _ _ _ h => h) (Or.inl ⟨by rfl, ?_⟩) (by assumption) ?_
     rotate_left
     ·(intro w0' hSw; (try dsimp only at hSw); go_simp; try with_reducible rfl)
     change wpAnyH _ _ _ _ _ _ _ (Act.put _ (some 152) _) _
     try simp only [Act.put, List.setIfInBounds_toArray, List.set_cons_zero, List.set_cons_succ]
     refine wpAnyH_take (i := 36) (oi := _) (v := ?_) rfl (by kernel_rfl) (by kernel_rfl) (by kernel_rfl) (fun _ _ _ h => h) (Or.inl ⟨by rfl, ?_⟩) (by assumption) ?_
     rotate_left
     ·(intro w0' hSw; (try dsimp only at hSw); go_simp; try with_reducible rfl)
     change wpAnyH _ _ _ _ _ _ _ (Act.put _ (some 153) _) _
     try simp only [Act.put, List.setIfInBounds_toArray, List.set_cons_zero, List.set_cons_succ]
     refine wpAnyH_take (i := 37) (oi := _) (v := ?_) rfl (by kernel_rfl) (by kernel_rfl) (by kernel_rfl) (fun _ _ _ h => h) (Or.inl ⟨by rfl, ?_⟩) (by assumption) ?_
     rotate_left
     ·(intro w0' hSw; (try dsimp only at hSw); go_simp; try with_reducible rfl)
     change wpAnyH _ _ _ _ _ _ _ (Act.put _ (some 154) _) _
     try simp only [Act.put, List.setIfInBounds_toArray, List.set_cons_zero, List.set_cons_succ]
     refine wpAnyH_take (i := 38) (oi := _) (v := ?_) rfl (by kernel_rfl) (by kernel_rfl) (by kernel_rfl) (fun _ _ _ h => h) (Or.inl ⟨by rfl, ?_⟩) (by assumption) ?_
     rotate_left
     ·(intro w0' hSw; (try dsimp only at hSw); go_simp; try with_reducible rfl)
     change wpAnyH _ _ _ _ _ _ _ (Act.put _ (some 155) _) _
     try simp only [Act.put, List.setIfInBounds_toArray, List.set_cons_zero, List.set_cons_succ]
     refine wpAnyH_ready (rs := [30]) (by kernel_rfl) (by simp) ?_
     refine AllReadyH.cons (o := _) rfl (fun K' hK' => ?_) AllReadyH.nil
     go_simp
     (go_at_call 43; refine (NXF.out _ T03.out).mono ?_; rintro e x4 ⟨rfl, K4, T04⟩)
     refine hK'.out _ _ (KS.out _ K4.out) (fun hHeld => ?_)
     clear hK' K'
     try simp only [Act.put, List.setIfInBounds_toArray, List.set_cons_zero, List.set_cons_succ]
     refine wpAnyH_take (i := 39) (oi := _) (v := ?_) rfl (by kernel_rfl) (by kernel_rfl) (by kernel_rfl) (fun _ _ _ h => h) (Or.inl ⟨by rfl, ?_⟩) (by assumption) ?_
     rotate_left
     ·(intro w0' hSw; (try dsimp only at hSw); go_simp; try with_reducible rfl)
     change wpAnyH _ _ _ _ _ _ _ (Act.put _ (some 156) _) _
     try simp only [Act.put, List.setIfInBounds_toArray, List.set_cons_zero, List.set_cons_succ]
     refine wpAnyH_take (i := 40) (oi := _) (v := ?_) rfl (by kernel_rfl) (by kernel_rfl) (by kernel_rfl) (fun _ _ _ h => h) (Or.inl ⟨by rfl, ?_⟩) (by assumption) ?_
     rotate_left
     ·(intro w0' hSw; (try dsimp only at hSw); go_simp; try with_reducible rfl)
     change wpAnyH _ _ _ _ _ _ _ (Act.put _ (some 157) _) _
     try simp only [Act.put, List.setIfInBounds_toArray, List.set_cons_zero, List.set_cons_succ]
     refine wpAnyH_take (i := 41) (oi := _) (v := ?_) rfl (by kernel_rfl) (by kernel_rfl) (by kernel_rfl) (fun _ _ _ h => h) (Or.inl ⟨by rfl, ?_⟩) (by assumption) ?_
     rotate_left
     ·(intro w0' hSw; (try dsimp only at hSw); go_simp; try with_reducible rfl)
     change wpAnyH _ _ _ _ _ _ _ (Act.put _ (some 158) _) _
     try simp only [Act.put, List.setIfInBounds_toArray, List.set_cons_zero, List.set_cons_succ]
     refine wpAnyH_done (by kernel_rfl) ?_ _
     go_wp2_with fail
     go_meet
     exact ⟨rfl, T04⟩
   case rest =>
   obtain ⟨rfl, TX⟩ := hcut
   have TA := AGN.out _ TX.out
   obtain ⟨x', hx'⟩ : ∃ x', x' = wc.heap.size := ⟨_, rfl⟩
   obtain ⟨w9, hw9⟩ : ∃ w9, w9 = wc.alloc (.cells #[.slice none 0 0, .int .i64 (Q : Nat), .slice none 0 0] 81) := ⟨_, rfl⟩
   rw [← hw9, ← hx'] at TA
   replace TA := Lib.hid TA
   have hQ1 : Hid (Q ≤ 20000) := NUM2.out.1
   clear MAY0 SAM0 NXT0 CEL TQ T00 AGN TX
   go_wp2_with fail
   try rw [← hw9, ← hx']
   clear hw9 hx'
   go_loopw [20] (fun kv wr => ∃ j : Nat, j ≤ Q ∧ kv = .int .i64 j ∧ Hid (RKp w2 b W1 D1 R1 JV y2 x' (Q : Nat) ((T1.map (·.1)).take j) (.slice none 0 0) T1 [wideT 2 92 (.slice lo Q lc) (txSlots base T1)] wr)) (fun kv _ => Q - (intOf kv).toNat)
   case atStart => exact ⟨0, Nat.zero_le _, rfl, TA.out⟩
   case round =>
    obtain ⟨j, hj, rfl, TJ⟩ := hrel
    clear TA
    have hj0 : (0 : Int) ≤ j := Int.natCast_nonneg _
    by_cases hjl : j < Q
    ·have hj1 : (j : Int) < Q := by omega
     obtain ⟨g, c, ao, nn, c2, t, e1, ht, et, ck⟩ := rkp_found TJ.out (show j < T1.length by have := HQT.out; omega)
     obtain rfl : lo = some ⟨g, 0, none⟩ := (Value.slice.inj e1).1
     have hnext : (T1.map (·.1)).take (j + 1) = (T1.map (·.1)).take j ++ [.slice ao nn c2] := take_snoc (by rw [List.getElem?_map, ht, ← et]; rfl)
     have hvl : ((T1.map (·.1)).take j).length ≤ 20000 := by rw [List.length_take]; have := hQ1.out; omega
     obtain ⟨cv, F9, so, sc, H⟩ := TJ.out
     obtain ⟨vals2, hv2⟩ : ∃ vs, vs = (T1.map (·.1)).take j := ⟨_, rfl⟩
     rw [← hv2] at H hnext hvl
     have BL := Lib.hid (show Blk wr x' 81 [.slice so vals2.length sc, .int .i64 (Q : Nat), .slice none 0 0] from H.get 5 rfl)
     have x0 := BL.out.cell (j := 0) rfl
     have f0 := BL.out.free 0
     obtain ⟨i0, hi, hz0, hz1, hz2⟩ := info_parts info_wpts
     replace hi := Lib.hid hi
     replace hz0 := Lib.hid hz0
     replace hz1 := Lib.hid hz1
     replace hz2 := Lib.hid hz2
     have OR : Hid (wr.ownsRow 0 58 1 (.slice so vals2.length sc) vals2.length vals2) := H.get 6 rfl
     have B1 : Hid (vals2.length + 1 ≤ maxLen) := Lib.hid (by unfold maxLen; omega)
     have B2 : Hid ((vals2.length + 1) * 24 ≤ 140737488355328) := Lib.hid (by omega)
     have OFFP : Hid ((Value.slice so vals2.length sc).ownBlock ≠ some x') := fun e => (List.pairwise_cons.1 (H.sub (.cons _ (.cons _ (.cons _ (.cons _ (.cons _ (List.Sublist.refl _))))))).apart).1 (ownT 58 (.slice so vals2.length sc) vals2) List.mem_cons_self x' (by simp [lifeT, blkT]) (by show x' ∈ (Value.slice so vals2.length sc).ownBlock.toList; simp [e])
     have pA : (wr.alloc (.cells #[.slice ao nn c2] 58)).cell? ⟨x', 0, none⟩ = some (.slice so vals2.length sc) := (BL.out.alloc _).cell (j := 0) rfl
     have MEAS2 : Hid (Q - (intOf (.int .i64 ((j : Int) + 1))).toNat < Q - (intOf (.int .i64 (j : Int))).toNat) := meas_next hjl
     have WAB2 := Lib.hid (sc_wrap (z := (j : Int) + 1) (by omega) (by have := hQ1.out; omega))
     have HH := Lib.hid H
     replace hnext := Lib.hid hnext
     clear H TJ e1 ht et hvl hv2 HQT NUM2 KNX
     go_upto_region 35 with fail
     go_region_law (first | (refine step_append_three _ (by rfl) _ _ _ (by rfl) 0 58 i0 (.slice none 0 0) 1 24 Tryz.underlying53 hi.out hz0.out hz1.out hz2.out rfl (by decide) _ vals2.length _ (by rfl) (OR.out.alloc _) ⟨wr.heap.size, 0, none⟩ 1 1 [.slice ao nn c2] (by rfl) (by rfl) (one_new1 _ _ _) (by simp [Value.oneCell']) B1.out B2.out (Nat.zero_le _) ?_; intro vo vc wn ol2 gr2 nb2; have CG : Hid (Chg (Value.slice so vals2.length sc).ownBlock.toList wr wn) := (by first | exact ((((Chg.refl [] wr).drewN _).alloc _).mono (by simp)).grown gr2.out (fun k hk => .inl (by rw [hk]; simp)) | exact (((Chg.refl [] wr).drew.alloc _).mono (by simp)).grown gr2.out (fun k hk => .inl (by rw [hk]; simp)) | exact (((Chg.refl [] wr).alloc _).mono (by simp)).grown gr2.out (fun k hk => .inl (by rw [hk]; simp))); have PN : Hid (Blk wn x' 81 _) := BL.out.chg CG.out (fun hm => OFFP.out (by simpa using hm)); have z0 := PN.out.cell (j := 0) rfl; have zf := PN.out.free 0))
     all_goals have NB := Lib.hid (nb_of nb2.out (H0 := wr.heap.size) (by simp))
     all_goals have SF := Lib.hid (rkp_app HH.out CG.out ol2.out NB.out)
     all_goals clear CG ol2 gr2 nb2 NB
     all_goals obtain ⟨wc1, wc2⟩ := WAB2.out
     all_goals go_wp2_with fail
     all_goals exact ⟨⟨j + 1, hjl, by first | rfl | (rw [Int.natCast_add]; rfl) | go_num, by rw [hnext.out]; exact SF⟩, MEAS2.out⟩
    ·have hj1 : ¬ (j : Int) < Q := by omega
     have hjQ : j = Q := by omega
     subst hjQ
     have TE := TJ.out.pop
     rw [List.take_of_length_le (by rw [List.length_map]; have := HQT.out; omega)] at TE
     have hsz : (Lf.length : Nat) = j := by have := HQT.out; omega
     have KN2 := KNX.out
     have END : Hid (KAll w w2 es n (m + 1) b W1 D1 R1 x' 0 wr) := ⟨y2, JV, Lf, none, Lf.length, T1.map (·.1), .slice none 0 0, T1, KNX.out, by rw [hsz]; exact TE⟩
     clear TE TJ KN2 KNX HQT NUM2
     obtain ⟨wa, wb⟩ := WAB.out
     go_wp2_with fail
     exact ⟨⟨m + 1, W1, D1, R1, x', 0, hlt, by first | rfl | (rw [Int.natCast_add]; rfl) | go_num, rfl, rfl, rfl, END.out⟩, MEAS.out⟩
  have kb8 : (K == 8) = false := by simpa using k8
  by_cases k1 : 1 ≤ K
  case neg =>
   clear RI RIF e2 e3 hbl HPB HR1 HVN HN ST T0 BND hZ ha hK
   obtain ⟨wa, wb⟩ := WAB.out
   go_wp2_with fail
   exact ⟨⟨m + 1, W, D, R, x, k, hlt, by first | rfl | (rw [Int.natCast_add]; rfl) | go_num, rfl, rfl, rfl, IDLE.out _ T1.out⟩, MEAS.out⟩
  case pos =>
  by_cases k5 : K ≤ 5
  case neg =>
   clear RI RIF e2 e3 hbl HPB HR1 HVN HN ST T0 BND hZ ha hK
   obtain ⟨wa, wb⟩ := WAB.out
   go_wp2_with fail
   exact ⟨⟨m + 1, W, D, R, x, k, hlt, by first | rfl | (rw [Int.natCast_add]; rfl) | go_num, rfl, rfl, rfl, IDLE.out _ T1.out⟩, MEAS.out⟩
  case pos =>
  by_cases k0 : k = 0
  case neg =>
   have kb0 : (k == 0) = false := by simpa using k0
   clear RI RIF e2 e3 hbl HPB HR1 HVN HN ST T0 BND hZ ha hK
   obtain ⟨wa, wb⟩ := WAB.out
   go_wp2_with fail
   exact ⟨⟨m + 1, W, D, R, x, k, hlt, by first | rfl | (rw [Int.natCast_add]; rfl) | go_num, rfl, rfl, rfl, IDLE.out _ T1.out⟩, MEAS.out⟩
  case pos =>
  subst k0
  have hslot := ST.out.slot
  have FIT : Hid J.Fit := by
   rcases ST.out.st with ⟨_, q⟩ | ⟨q, _⟩
   ·obtain ⟨_, _, _, _, ok, _⟩ := q.st
    exact ok.fit (Nat.lt_of_le_of_lt (Nat.add_le_add_left HM5.out 6000) (by decide))
   ·omega
  have CC := rkp_call a T1.out FIT.out (by rw [hslot]; exact ⟨by decide, by decide⟩) (BND.out.1.mono (by decide)) ((RIF.out _ (CW.out.trans T1.out.chg)).s2) HPB.out ⟨_, _, _, e3⟩
  have hp0 : Pts w a.ptsV a.pts := (RIF.out w (Chg.refl _ _)).s2
  have S3 := ST.out.call HM5.out ha (fun p hp => (HPB.out p hp).1) hp0
  have DDF : Hid (∀ OUT w', RKp w2 b W D R (Wl.Out.jn OUT) (Wl.Out.bay OUT) x sr vals lv T [blkT wr.heap.size 61 [.int .i64 K, .int .i64 Z, .slice x2 a.pts.length y2, .slice x3 a.keep.length y3]] w' → Calls Tryz.prog 39 #[.pointer (some ⟨x, 0, none⟩), .agg #[.int .i64 K, .int .i64 Z, .slice x2 a.pts.length y2, .slice x3 a.keep.length y3]] w' fun e w'' => e = .returned (.tuple #[]) ∧ Hid (RKp w2 b W D R (Wl.Out.jn OUT) (Wl.Out.bay OUT) x (lifeS K sr vals) (lifeV K lv vals) (lifeL K lv (.slice x2 a.pts.length y2)) T [blkT wr.heap.size 61 [.int .i64 K, .int .i64 Z, .slice x2 a.pts.length y2, .slice x3 a.keep.length y3]] w'')) := fun OUT w' h => rkp_does h (by rw [ST.out.len]; exact Nat.le_trans BND.out.2 (by decide)) ST.out.sl _ _ _ _ _ _ _ _
  rw [← hK, ← hZ, e2, e3] at CC
  rw [← hK, e2] at S3
  obtain ⟨OUT, hOUT⟩ : ∃ OUT, OUT = Wl.callJ y J a := ⟨_, rfl⟩
  rw [← hOUT] at CC S3
  replace CC := Lib.hid CC
  have DD := Lib.hid (DDF.out OUT)
  clear DDF RI RIF e2 e3 hbl HPB HR1 HVN HN T0 BND hZ ha IDLE FIT hslot hp0 hOUT
  rcases S3 with ⟨h50, s1, s2, S4⟩ | ⟨h50, h0, S4⟩ | ⟨h0, L', G', sr', S4, hsr⟩
  ·replace S4 := Lib.hid S4
   rw [h50] at CC
   clear DD ST hK
   obtain ⟨wa, wb⟩ := WAB.out
   go_wp2_with (go_at_call 38; refine CC.out.mono ?_; rintro e w8 ⟨rfl, T8⟩; clear CC c0 c1 c2 c3; have z0 := (show Blk _ _ _ _ from T8.out.top).cell (j := 0) rfl)
   exact ⟨⟨m + 1, W, D, R, x, K, hlt, by first | rfl | (rw [Int.natCast_add]; rfl) | go_num, rfl, rfl, rfl, ⟨_, _, _, _, _, _, _, _, S4.out, T8.out.pop⟩⟩, MEAS.out⟩
  ·replace S4 := Lib.hid S4
   obtain ⟨E, hE⟩ : ∃ E, E = OUT.err := ⟨_, rfl⟩
   rw [← hE] at CC h50 h0
   have b50 : (E == 50) = false := by simpa using h50
   have b0 : (E == 0) = false := by simpa using h0
   clear DD ST hK hE
   obtain ⟨wa, wb⟩ := WAB.out
   go_wp2_with (go_at_call 38; refine CC.out.mono ?_; rintro e w8 ⟨rfl, T8⟩; clear CC c0 c1 c2 c3; have z0 := (show Blk _ _ _ _ from T8.out.top).cell (j := 0) rfl)
   exact ⟨⟨m + 1, W, D, R, x, 0, hlt, by first | rfl | (rw [Int.natCast_add]; rfl) | go_num, rfl, rfl, rfl, ⟨_, _, _, _, _, _, _, _, S4.out, T8.out.pop⟩⟩, MEAS.out⟩
  ·replace S4 := Lib.hid S4
   replace hsr := Lib.hid hsr
   rw [h0] at CC
   clear ST hK
   obtain ⟨wa, wb⟩ := WAB.out
   go_wp2_with (first
    | (go_at_call 38; refine CC.out.mono ?_; rintro e w8 ⟨rfl, T8⟩; clear CC c0 c1 c2 c3; have DD8 := Lib.hid (DD.out _ T8.out); obtain ⟨z0, z1, z2, z3⟩ : _ ∧ _ ∧ _ ∧ _ := ⟨(show Blk _ _ _ _ from T8.out.top).cell (j := 0) rfl, (show Blk _ _ _ _ from T8.out.top).cell (j := 1) rfl, (show Blk _ _ _ _ from T8.out.top).cell (j := 2) rfl, (show Blk _ _ _ _ from T8.out.top).cell (j := 3) rfl⟩)
    | (go_at_call 39; refine DD8.out.mono ?_; rintro e w9 ⟨rfl, T9⟩; clear DD8 DD z0 z1 z2 z3; have z0 := (show Blk _ _ _ _ from T9.out.top).cell (j := 0) rfl))
   have T11 := T9.out.pop
   rw [← hsr.out] at T11
   exact ⟨⟨m + 1, W, D, R, x, 0, hlt, by first | rfl | (rw [Int.natCast_add]; rfl) | go_num, rfl, rfl, rfl, ⟨_, _, _, _, sr', _, _, _, S4.out, T11⟩⟩, MEAS.out⟩

end Go.Proofs.YtkafkdlgflkjgaaGreat
