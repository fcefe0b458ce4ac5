/-
  The document's lift: New, Next. By an AI agent.
-/
import Derived.Test.YtihmegpcbpdipaaRefLift3
import Derived.Laws.ResultCell
namespace Go.Proofs.Ytihmegpcbpdipaa
open Go.RowKit

theorem results_pair {fn : Func} {p u : Tmp} {ty : TypeId} {P : Program} (h : fn.results = #[.cell p ty, .tmp u]) (tmps : Array Value) (w : World) (g : Nat) (t : TypeId) (cs : Array Value) (fr : Nat × Nat) (fs)
    (hp : tmps.getD p undef = .pointer (some ⟨g, 0, none⟩)) (hg : w.heap[g]? = some (.cells cs t fr))
    (hu : P.underlying ty = some (.struct fs)) (hi : (P.info? ty).map (·.size) = some cs.size) :
    (results fn tmps).run P w = .ok (.tuple #[.agg cs, tmps.getD u undef]) w := by
  rw [results_cell_tmp h, hp]
  have e1 : (asAddr (.pointer (some ⟨g, 0, none⟩))).run P w = .ok ⟨g, 0, none⟩ w := rfl
  rw [e1]
  have e2 := run_loadVar_row w g t ty cs fr _ hg hu rfl hi
  simp only [Result.andThen]
  rw [e2]

theorem size_patch : (Try.prog.info? 49).map (·.size) = some 3 := by kernel_rfl

set_option maxHeartbeats 1000000 in
set_option maxRecDepth 100000 in
theorem refNew_ok (row : Nat) (hr : row ≤ 4095) (w : World) : Calls Try.prog 9 #[.int .i64 (row : Int)] w fun e w' =>
    e = .returned (.tuple #[.pointer (some ⟨w.heap.size, 0, none⟩), .int .i64 0]) ∧ Hid (Blk w' w.heap.size 64 [.slice none 0 0, .int .i64 (row : Int)]) ∧ Hid (Chg [] w w') := by
  have g1 : ¬ (row : Int) < 0 := by omega
  have g2 : ¬ (4095 : Int) < row := by omega
  go_enter Try.func9, Try.ntmps9
  go_wp2_with fail
  go_ret2
  exact ⟨rfl, Blk.made w [.slice none 0 0, .int .i64 (row : Int)] _, (Chg.refl _ _).alloc _⟩

set_option maxHeartbeats 1000000 in
set_option maxRecDepth 100000 in
theorem refNew_no (row : Int) (h : row < 0 ∨ 4095 < row) (w : World) : Calls Try.prog 9 #[.int .i64 row] w fun e w' => e = .returned (.tuple #[.pointer none, .int .i64 3]) ∧ w = w' := by
  by_cases a : row < 0
  · clear h
    go_enter Try.func9, Try.ntmps9
    go_wp2_with fail
    go_ret2
    exact ⟨rfl, rfl⟩
  · have a2 : 4095 < row := by omega
    clear h
    go_enter Try.func9, Try.ntmps9
    go_wp2_with fail
    go_ret2
    exact ⟨rfl, rfl⟩

/-- What Next hands out: the first of the way, and the lift goes on from there. -/
def Nexts (w0 : World) (P row : Nat) (S : List Pd) (ts : List Thing) (e : Ending) (w' : World) : Prop :=
  (S = [] ∧ e = .returned (.tuple #[.agg #[.int .i64 0, .int .i64 0, .slice none 0 0], .bool false]) ∧ ∃ lv', Hid (Side w0 w' (lfT P lv' row :: listT lv' [] :: dataT [] :: ts))) ∨
  ∃ (d : Pd) (v : Value) (e8 : TypeId) (lv' : Value) (L' : List Pv), Lf.way row S = d :: Lf.way d.r (Lf.out d S) ∧ d ∈ S ∧ Rep L' (Lf.out d S) ∧ L'.length ≤ S.length ∧ e = .returned (.tuple #[.agg #[.int .i64 (d.m : Int), .int .i64 (d.r : Int), v], .bool true]) ∧
    Hid (Side w0 w' (ownT e8 v (ub d.bs) :: lfT P lv' d.r :: listT lv' L' :: dataT L' :: ts))

theorem lf_cells {w0 w : World} {ts : List Thing} {B : Thing} {P row : Nat} {lv : Value} {L : List Pv} (h : Side w0 w (B :: lfT P lv row :: listT lv L :: dataT L :: ts)) :
    (w.cell? ⟨P, 0, none⟩ = some lv ∧ w.cell? ⟨P, 1, none⟩ = some (.int .i64 (row : Int))) ∧ OwnW 3 w 0 49 lv (L.map pvSlot) ∧ PvOk L :=
  ⟨⟨(h.get 1 rfl : Blk _ _ _ _).cell (j := 0) rfl, (h.get 1 rfl : Blk _ _ _ _).cell (j := 1) rfl⟩, h.get 2 rfl, (h.get 3 rfl : Pool w (L.map pvRow)).ok⟩

theorem lf_least {w0 w : World} {ts : List Thing} {B : Thing} {P row : Nat} {lv : Value} {L : List Pv} (h : Side w0 w (B :: lfT P lv row :: listT lv L :: dataT L :: ts)) (fr : Nat) (hl : L.length ≤ 1000000) :
    Calls Try.prog 31 #[.pointer (some ⟨P, 0, none⟩), .int .i64 (fr : Int)] w fun e w' => ∃ b, e = .returned (.int .i64 b) ∧ Hid (Least L fr L.length b) ∧ Hid (Chg [] w w') := by
  obtain ⟨_, h2, h3⟩ := lf_cells h
  exact least_any w P row fr lv L (h.get 1 rfl) h2.rd (fun g hg => (h2.lt g hg).2) hl h3

theorem Rep_pw {l : List Pd} (h : l.Pairwise fun p q => ¬ Lf.same p q) : l.Nodup := h.imp fun {a b} hab e => hab (by rw [e]; exact Lf.same_refl _)

theorem RP_len {L : List Pv} {S : List Pd} (h : Rep L S) : L.length = S.length := by
  have h1 : (dOf L).Nodup := Rep_pw h.apart
  have h2 : S.Nodup := (show S.Pairwise Lf.lt from h.srt).imp (fun {a b} (hab : Lf.lt a b) (e : a = b) => Lf.lt_irrefl b (by rw [e] at hab; exact hab))
  have hp : (dOf L).Perm S := (List.perm_ext_iff_of_nodup h1 h2).2 fun x => (h.mem x).symm
  have := hp.length_eq
  unfold dOf at this
  rw [List.length_map] at this
  exact this

/-- One block more, behind a new one. -/
theorem Side.box5 {w0 W : World} {ts : List Thing} {B A1 A2 A3 : Thing} (h : Side w0 W (B :: A1 :: A2 :: A3 :: ts)) (vs : List Value) (e : TypeId) : Side w0 (W.alloc (.cells vs.toArray e)) (blkT W.heap.size e vs :: A1 :: A2 :: A3 :: B :: ts) := by
  have h1 : Side w0 (W.alloc (.cells vs.toArray e)) (blkT W.heap.size e vs :: B :: A1 :: A2 :: A3 :: ts) := h.add ((Chg.refl _ _).alloc _) (Blk.made W vs e) (fun k hk => by rw [List.mem_singleton.1 hk]; exact Nat.le_refl _)
  exact ((((h1.front 4).front 4).front 4).front 3)

/-- The lift's three things turned, what came out by itself. -/
theorem Side.cutKeep {w0 w wn : World} {ts : List Thing} {B : Thing} {P row : Nat} {lv lvn : Value} {L : List Pv} {i : Nat} {p : Pv} (h : Side w0 w (B :: lfT P lv row :: listT lv L :: dataT L :: ts)) (hi : L[i]? = some p) (c : Chg [] w wn) (ol : OwnW 3 wn w.heap.size 49 lvn ((L.eraseIdx i).map pvSlot)) :
    ∃ e8, Side w0 (wn.setCell ⟨P, 0, none⟩ lvn) (ownT e8 p.2 (ub p.1.bs) :: B :: lfT P lvn row :: listT lvn (L.eraseIdx i) :: dataT (L.eraseIdx i) :: ts) := by
  have h1 : Side w0 w (lfT P lv row :: listT lv L :: B :: dataT L :: ts) := (h.front 2).front 2
  have h2 := h1.relist (c.mono (by simp)) (ol.lower (Nat.zero_le _)) (fun k hk => .inr (ol.lt k hk).1)
  have h3 : Side w0 (wn.setCell ⟨P, 0, none⟩ lvn) (dataT L :: lfT P lvn row :: listT lvn (L.eraseIdx i) :: B :: ts) := h2.front 3
  obtain ⟨e8, h4⟩ := h3.drawAt hi
  exact ⟨e8, (((h4.front 3).front 3).front 4).front 3⟩

/-- A block's cells go over into another one. -/
theorem Side.spill {w0 w w' : World} {ts : List Thing} {O B A1 A2 A3 : Thing} {g : Nat} {e : TypeId} {vs us : List Value} (h : Side w0 w (O :: B :: A1 :: A2 :: A3 :: blkT g e vs :: ts)) (b : Blk w' g e us) (c : Chg [g] w w') : Side w0 w' (O :: A1 :: A2 :: A3 :: ts) := by
  have h1 : Side w0 w' (O :: B :: A1 :: A2 :: A3 :: blkT g e us :: ts) := h.turnAt (b := blkT g e us) 5 rfl (s := [g]) c (fun k hk => .inl hk) b (fun k hk => .inl hk)
  exact ((h1.front 5).tail.front 1).tail

set_option maxHeartbeats 4000000 in
set_option maxRecDepth 100000 in
theorem refNext_any {w0 w : World} {ts : List Thing} (P row : Nat) (lv : Value) (L : List Pv) (S : List Pd) (hrep : Rep L S) (hl : L.length ≤ 1000000) (h : Side w0 w (lfT P lv row :: listT lv L :: dataT L :: ts)) :
    Calls Try.prog 11 #[.pointer (some ⟨P, 0, none⟩)] w (Nexts w0 P row S ts) := by
  have HL := Lib.hid hl
  have HR := Lib.hid hrep
  have H1 := Lib.hid (h.add (b := blkT w.heap.size 49 [.int .i64 0, .int .i64 0, .slice none 0 0]) ((Chg.refl _ _).alloc (.cells #[.int .i64 0, .int .i64 0, .slice none 0 0] 49)) (Blk.made w [_, _, _] _) (fun k hk => by rw [List.mem_singleton.1 hk]; exact Nat.le_refl _))
  have LE : Hid (∀ w' B, Side w0 w' (B :: lfT P lv row :: listT lv L :: dataT L :: ts) → ∀ fr : Nat, Calls Try.prog 31 #[.pointer (some ⟨P, 0, none⟩), .int .i64 (fr : Int)] w' fun e w'' => ∃ b, e = .returned (.int .i64 b) ∧ Hid (Least L fr L.length b) ∧ Hid (Chg [] w' w'')) := fun w' B hs fr => lf_least hs fr HL.out
  have c1 := (lf_cells H1.out).1.2
  clear hl hrep h
  go_enter Try.func11, Try.ntmps11
  go_wp2_with fail
  refine (LE.out _ _ H1.out row).mono ?_
  rintro e w1 ⟨b, rfl, LS, C⟩
  replace H1 := Lib.hid (H1.out.quiet C.out)
  clear C c1
  generalize w.heap.size = B2 at *
  rcases LS.out with ⟨rfl, hno⟩ | ⟨i, ⟨⟨dm, dr, bs⟩, dv⟩, rfl, hi, hp, hf, hle⟩
  · go_wp2_with fail
    have LE0 := LE.out _ _ H1.out 0
    rw [show ((0 : Nat) : Int) = 0 from rfl] at LE0
    refine LE0.mono ?_
    rintro e w2 ⟨b, rfl, LS2, C⟩
    have HH := Lib.hid (H1.out.quiet C.out)
    clear H1 C LE0
    rcases LS2.out with ⟨rfl, hno2⟩ | ⟨i, ⟨⟨dm, dr, bs⟩, dv⟩, rfl, hi, hp, _, hle⟩
    · have hL : L = [] := by
        cases L with
        | nil => rfl
        | cons a L => have := hno2 0 a (by simp) rfl; omega
      subst hL
      have hS := HR.out.empty
      subst hS
      have hB : Blk w2 B2 49 _ := HH.out.get 0 rfl
      have b0 := hB.free 0
      have b1 := hB.free 1
      have b2 := hB.free 2
      have s0 := hB.cell (j := 0) rfl
      have s1 := hB.cell (j := 1) rfl
      have s2 := hB.cell (j := 2) rfl
      have HB6 : Hid (Blk (((w2.setCell ⟨B2, 0, none⟩ (.int .i64 0)).setCell ⟨B2, 1, none⟩ (.int .i64 0)).setCell ⟨B2, 2, none⟩ (.slice none 0 0)) B2 49 [.int .i64 0, .int .i64 0, .slice none 0 0]) := ((hB.set 0 _).set 1 _).set 2 _
      have H6 := Lib.hid ((HH.out.turnAt (b := blkT B2 49 [.int .i64 0, .int .i64 0, .slice none 0 0]) 0 rfl (s := [B2]) (((((Chg.refl [B2] w2).setCell (p := ⟨B2, 0, none⟩) (.inl (by simp)) _).setCell (p := ⟨B2, 1, none⟩) (.inl (by simp)) _).setCell (p := ⟨B2, 2, none⟩) (.inl (by simp)) _)) (fun k hk => .inl hk) HB6.out (fun k hk => .inl hk)).tail)
      clear hB hno hno2 HH
      go_wp2_with fail
      refine bodyPost_ret (results_pair rfl _ _ B2 _ _ _ _ rfl HB6.out Try.underlying49 size_patch) rfl ?_
      exact .inl ⟨rfl, rfl, lv, H6⟩
    · have HI : Hid (L[i]? = some (⟨dm, dr, bs⟩, dv)) := hp
      have HWY : Hid (Lf.way row S = (⟨dm, dr, bs⟩ : Pd) :: Lf.way dr (Lf.out ⟨dm, dr, bs⟩ S)) := HR.out.downs hp hno hle
      clear hi hp hle hno LS LS2
      obtain ⟨⟨p0, p1⟩, OWx, PKx⟩ := lf_cells HH.out
      have OW := Lib.hid OWx
      have PK := Lib.hid PKx
      clear OWx PKx
      obtain ⟨lo, lc, hlv⟩ := OW.out.slice
      rw [List.length_map] at hlv
      subst hlv
      obtain ⟨g, rfl, c0, c1, c2⟩ := least_of_cells OW.out.rd HI.out
      obtain ⟨vo, vn, vc, hvv⟩ := PK.out _ (List.mem_of_getElem? HI.out)
      dsimp only at hvv c0 c1 c2
      subst hvv
      have hi0 : (0 : Int) ≤ i := Int.natCast_nonneg _
      have hi1 : (i : Int) < L.length := by have := (List.getElem?_eq_some_iff.1 HI.out).1; omega
      have hin : ¬ (i : Int) < 0 := by omega
      have WA : Hid (∀ w', Chg [] w2 w' → Calls Try.prog 32 #[.slice (some ⟨g, 0, none⟩) L.length lc, .int .i64 (i : Int)] w' fun e w'' => ∃ v, e = .returned v ∧ Hid (OwnW 3 w'' w'.heap.size 49 v ((L.eraseIdx i).map pvSlot)) ∧ Hid (Chg [] w' w'')) := fun w' ch =>
        without_any w' g L.length lc i L (OW.out.rd.chg ch (by simp)) (Nat.lt_of_lt_of_le (OW.out.lt g rfl).2 ch.size) rfl OW.out.cap (List.getElem?_eq_some_iff.1 HI.out).1 PK.out (by have := HL.out; omega)
      have H3 := Lib.hid (HH.out.box5 [.int .i64 (dm : Int), .int .i64 (dr : Int), .slice vo vn vc] 49)
      have pA := (H3.out.get 1 rfl : Blk _ _ _ _).cell (j := 0) rfl
      go_wp2_with fail
      refine (WA.out _ ((Chg.refl _ _).alloc _)).mono ?_
      rintro e w4 ⟨v2, rfl, O2, C2⟩
      clear WA p0 p1 c0 c1 c2 pA
      generalize hB5 : w2.heap.size = B5 at *
      replace hB5 := Lib.hid hB5
      have hP4 : Blk w4 P 64 _ := (H3.out.get 1 rfl : Blk _ _ _ _).chg C2.out (by simp)
      have f0 := hP4.free 0
      obtain ⟨u0, hu0⟩ : ∃ u, w4.cell? ⟨P, 0, none⟩ = some u := ⟨_, hP4.cell (j := 0) rfl⟩
      obtain ⟨e8, H4⟩ := H3.out.cutKeep HI.out C2.out O2.out
      replace H4 := Lib.hid H4
      obtain ⟨vo2, vc2, hv2⟩ := O2.out.slice
      rw [List.length_map] at hv2
      obtain ⟨nL, hnL⟩ : ∃ nL, nL = (L.eraseIdx i).length := ⟨_, rfl⟩
      rw [← hnL] at hv2
      replace hnL := Lib.hid hnL
      subst hv2
      clear H3 hP4 O2 C2
      have q0 := (H4.out.get 1 rfl : Blk _ _ _ _).cell (j := 0) rfl
      have q1 := (H4.out.get 1 rfl : Blk _ _ _ _).cell (j := 1) rfl
      have q2 := (H4.out.get 1 rfl : Blk _ _ _ _).cell (j := 2) rfl
      have hP5 : Blk (w4.setCell ⟨P, 0, none⟩ (.slice vo2 nL vc2)) P 64 _ := H4.out.get 2 rfl
      have f1 := hP5.free 1
      obtain ⟨u1, hu1⟩ : ∃ u, (w4.setCell ⟨P, 0, none⟩ (.slice vo2 nL vc2)).cell? ⟨P, 1, none⟩ = some u := ⟨_, hP5.cell (j := 1) rfl⟩
      have H5 : Hid (Side w0 ((w4.setCell ⟨P, 0, none⟩ (.slice vo2 nL vc2)).setCell ⟨P, 1, none⟩ (.int .i64 (dr : Int))) (ownT e8 (.slice vo vn vc) (ub bs) :: blkT B5 49 [.int .i64 (dm : Int), .int .i64 (dr : Int), .slice vo vn vc] :: lfT P (.slice vo2 nL vc2) dr :: listT (.slice vo2 nL vc2) (L.eraseIdx i) :: dataT (L.eraseIdx i) :: blkT B2 49 [.int .i64 0, .int .i64 0, .slice none 0 0] :: ts)) :=
        H4.out.turnAt (b := lfT P (.slice vo2 nL vc2) dr) 2 rfl (s := [P]) ((Chg.refl [P] _).setCell (p := ⟨P, 1, none⟩) (.inl (by simp)) (.int .i64 (dr : Int))) (fun k hk => .inl hk) (hP5.set 1 _) (fun k hk => .inl hk)
      clear H4 hP5
      have r0 := (H5.out.get 1 rfl : Blk _ _ _ _).cell (j := 0) rfl
      have r1 := (H5.out.get 1 rfl : Blk _ _ _ _).cell (j := 1) rfl
      have r2 := (H5.out.get 1 rfl : Blk _ _ _ _).cell (j := 2) rfl
      have hB : Blk ((w4.setCell ⟨P, 0, none⟩ (.slice vo2 nL vc2)).setCell ⟨P, 1, none⟩ (.int .i64 (dr : Int))) B2 49 _ := H5.out.get 5 rfl
      have b0 := hB.free 0
      have b1 := hB.free 1
      have b2 := hB.free 2
      have s0 := hB.cell (j := 0) rfl
      have s1 := hB.cell (j := 1) rfl
      have s2 := hB.cell (j := 2) rfl
      have HB6 : Hid (Blk (((((w4.setCell ⟨P, 0, none⟩ (.slice vo2 nL vc2)).setCell ⟨P, 1, none⟩ (.int .i64 (dr : Int))).setCell ⟨B2, 0, none⟩ (.int .i64 (dm : Int))).setCell ⟨B2, 1, none⟩ (.int .i64 (dr : Int))).setCell ⟨B2, 2, none⟩ (.slice vo vn vc)) B2 49 [.int .i64 (dm : Int), .int .i64 (dr : Int), .slice vo vn vc]) := ((hB.set 0 _).set 1 _).set 2 _
      have H6 := Lib.hid (H5.out.spill HB6.out (((((Chg.refl [B2] ((w4.setCell ⟨P, 0, none⟩ (.slice vo2 nL vc2)).setCell ⟨P, 1, none⟩ (.int .i64 (dr : Int)))).setCell (p := ⟨B2, 0, none⟩) (.inl (by simp)) _).setCell (p := ⟨B2, 1, none⟩) (.inl (by simp)) _).setCell (p := ⟨B2, 2, none⟩) (.inl (by simp)) _)))
      have HE := Lib.hid HB6.out
      clear hB
      have RP := Lib.hid (HR.out.erase HI.out)
      have LL : Hid ((L.eraseIdx i).length ≤ S.length) := by rw [← RP_len HR.out]; show _ ≤ _; rw [List.length_eraseIdx_of_lt (List.getElem?_eq_some_iff.1 HI.out).1]; omega
      have DM : Hid ((⟨dm, dr, bs⟩ : Pd) ∈ S) := (HR.out.mem _).2 (List.mem_map.2 ⟨_, List.mem_of_getElem? HI.out, rfl⟩)
      go_wp2_with fail
      refine bodyPost_ret (results_pair rfl _ _ B2 _ _ _ _ rfl HE.out Try.underlying49 size_patch) rfl ?_
      exact .inr ⟨_, _, e8, _, _, HWY.out, DM.out, RP.out, LL.out, rfl, H6⟩
  · have HI : Hid (L[i]? = some (⟨dm, dr, bs⟩, dv)) := hp
    have HWY : Hid (Lf.way row S = (⟨dm, dr, bs⟩ : Pd) :: Lf.way dr (Lf.out ⟨dm, dr, bs⟩ S)) := HR.out.ups hp hf hle
    have HH := H1
    clear hi hp hle hf LS H1 LE
    obtain ⟨⟨p0, p1⟩, OWx, PKx⟩ := lf_cells HH.out
    have OW := Lib.hid OWx
    have PK := Lib.hid PKx
    clear OWx PKx
    obtain ⟨lo, lc, hlv⟩ := OW.out.slice
    rw [List.length_map] at hlv
    subst hlv
    obtain ⟨g, rfl, c0, c1, c2⟩ := least_of_cells OW.out.rd HI.out
    obtain ⟨vo, vn, vc, hvv⟩ := PK.out _ (List.mem_of_getElem? HI.out)
    dsimp only at hvv c0 c1 c2
    subst hvv
    have hi0 : (0 : Int) ≤ i := Int.natCast_nonneg _
    have hi1 : (i : Int) < L.length := by have := (List.getElem?_eq_some_iff.1 HI.out).1; omega
    have hin : ¬ (i : Int) < 0 := by omega
    have WA : Hid (∀ w', Chg [] w1 w' → Calls Try.prog 32 #[.slice (some ⟨g, 0, none⟩) L.length lc, .int .i64 (i : Int)] w' fun e w'' => ∃ v, e = .returned v ∧ Hid (OwnW 3 w'' w'.heap.size 49 v ((L.eraseIdx i).map pvSlot)) ∧ Hid (Chg [] w' w'')) := fun w' ch =>
      without_any w' g L.length lc i L (OW.out.rd.chg ch (by simp)) (Nat.lt_of_lt_of_le (OW.out.lt g rfl).2 ch.size) rfl OW.out.cap (List.getElem?_eq_some_iff.1 HI.out).1 PK.out (by have := HL.out; omega)
    have H3 := Lib.hid (HH.out.box5 [.int .i64 (dm : Int), .int .i64 (dr : Int), .slice vo vn vc] 49)
    have pA := (H3.out.get 1 rfl : Blk _ _ _ _).cell (j := 0) rfl
    go_wp2_with fail
    refine (WA.out _ ((Chg.refl _ _).alloc _)).mono ?_
    rintro e w4 ⟨v2, rfl, O2, C2⟩
    clear WA p0 p1 c0 c1 c2 pA
    generalize hB5 : w1.heap.size = B5 at *
    replace hB5 := Lib.hid hB5
    have hP4 : Blk w4 P 64 _ := (H3.out.get 1 rfl : Blk _ _ _ _).chg C2.out (by simp)
    have f0 := hP4.free 0
    obtain ⟨u0, hu0⟩ : ∃ u, w4.cell? ⟨P, 0, none⟩ = some u := ⟨_, hP4.cell (j := 0) rfl⟩
    obtain ⟨e8, H4⟩ := H3.out.cutKeep HI.out C2.out O2.out
    replace H4 := Lib.hid H4
    obtain ⟨vo2, vc2, hv2⟩ := O2.out.slice
    rw [List.length_map] at hv2
    obtain ⟨nL, hnL⟩ : ∃ nL, nL = (L.eraseIdx i).length := ⟨_, rfl⟩
    rw [← hnL] at hv2
    replace hnL := Lib.hid hnL
    subst hv2
    clear H3 hP4 O2 C2
    have q0 := (H4.out.get 1 rfl : Blk _ _ _ _).cell (j := 0) rfl
    have q1 := (H4.out.get 1 rfl : Blk _ _ _ _).cell (j := 1) rfl
    have q2 := (H4.out.get 1 rfl : Blk _ _ _ _).cell (j := 2) rfl
    have hP5 : Blk (w4.setCell ⟨P, 0, none⟩ (.slice vo2 nL vc2)) P 64 _ := H4.out.get 2 rfl
    have f1 := hP5.free 1
    obtain ⟨u1, hu1⟩ : ∃ u, (w4.setCell ⟨P, 0, none⟩ (.slice vo2 nL vc2)).cell? ⟨P, 1, none⟩ = some u := ⟨_, hP5.cell (j := 1) rfl⟩
    have H5 : Hid (Side w0 ((w4.setCell ⟨P, 0, none⟩ (.slice vo2 nL vc2)).setCell ⟨P, 1, none⟩ (.int .i64 (dr : Int))) (ownT e8 (.slice vo vn vc) (ub bs) :: blkT B5 49 [.int .i64 (dm : Int), .int .i64 (dr : Int), .slice vo vn vc] :: lfT P (.slice vo2 nL vc2) dr :: listT (.slice vo2 nL vc2) (L.eraseIdx i) :: dataT (L.eraseIdx i) :: blkT B2 49 [.int .i64 0, .int .i64 0, .slice none 0 0] :: ts)) :=
      H4.out.turnAt (b := lfT P (.slice vo2 nL vc2) dr) 2 rfl (s := [P]) ((Chg.refl [P] _).setCell (p := ⟨P, 1, none⟩) (.inl (by simp)) (.int .i64 (dr : Int))) (fun k hk => .inl hk) (hP5.set 1 _) (fun k hk => .inl hk)
    clear H4 hP5
    have r0 := (H5.out.get 1 rfl : Blk _ _ _ _).cell (j := 0) rfl
    have r1 := (H5.out.get 1 rfl : Blk _ _ _ _).cell (j := 1) rfl
    have r2 := (H5.out.get 1 rfl : Blk _ _ _ _).cell (j := 2) rfl
    have hB : Blk ((w4.setCell ⟨P, 0, none⟩ (.slice vo2 nL vc2)).setCell ⟨P, 1, none⟩ (.int .i64 (dr : Int))) B2 49 _ := H5.out.get 5 rfl
    have b0 := hB.free 0
    have b1 := hB.free 1
    have b2 := hB.free 2
    have s0 := hB.cell (j := 0) rfl
    have s1 := hB.cell (j := 1) rfl
    have s2 := hB.cell (j := 2) rfl
    have HB6 : Hid (Blk (((((w4.setCell ⟨P, 0, none⟩ (.slice vo2 nL vc2)).setCell ⟨P, 1, none⟩ (.int .i64 (dr : Int))).setCell ⟨B2, 0, none⟩ (.int .i64 (dm : Int))).setCell ⟨B2, 1, none⟩ (.int .i64 (dr : Int))).setCell ⟨B2, 2, none⟩ (.slice vo vn vc)) B2 49 [.int .i64 (dm : Int), .int .i64 (dr : Int), .slice vo vn vc]) := ((hB.set 0 _).set 1 _).set 2 _
    have H6 := Lib.hid (H5.out.spill HB6.out (((((Chg.refl [B2] ((w4.setCell ⟨P, 0, none⟩ (.slice vo2 nL vc2)).setCell ⟨P, 1, none⟩ (.int .i64 (dr : Int)))).setCell (p := ⟨B2, 0, none⟩) (.inl (by simp)) _).setCell (p := ⟨B2, 1, none⟩) (.inl (by simp)) _).setCell (p := ⟨B2, 2, none⟩) (.inl (by simp)) _)))
    have HE := Lib.hid HB6.out
    clear hB
    have RP := Lib.hid (HR.out.erase HI.out)
    have LL : Hid ((L.eraseIdx i).length ≤ S.length) := by rw [← RP_len HR.out]; show _ ≤ _; rw [List.length_eraseIdx_of_lt (List.getElem?_eq_some_iff.1 HI.out).1]; omega
    have DM : Hid ((⟨dm, dr, bs⟩ : Pd) ∈ S) := (HR.out.mem _).2 (List.mem_map.2 ⟨_, List.mem_of_getElem? HI.out, rfl⟩)
    go_wp2_with fail
    refine bodyPost_ret (results_pair rfl _ _ B2 _ _ _ _ rfl HE.out Try.underlying49 size_patch) rfl ?_
    exact .inr ⟨_, _, e8, _, _, HWY.out, DM.out, RP.out, LL.out, rfl, H6⟩

end Go.Proofs.Ytihmegpcbpdipaa
