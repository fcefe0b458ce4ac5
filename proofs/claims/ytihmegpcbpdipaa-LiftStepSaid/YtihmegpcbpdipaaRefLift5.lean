/-
  The document's lift: All. By an AI agent.
-/
import Derived.Test.YtihmegpcbpdipaaRefLift4
namespace Go.Proofs.Ytihmegpcbpdipaa
open Go.RowKit

def vlen : Value → Nat
  | .slice _ n _ => n
  | _ => 0

/-- One patch more in a list that came out. -/
theorem gather {w0 w1 wn : World} {ts : List Thing} {B X Y Z : Thing} {n : Nat} {v bv vn : Value} {A : List Pv} {d : Pd} {e8 : TypeId} (h : Side w0 w1 (ownT e8 bv (ub d.bs) :: B :: X :: Y :: Z :: listT v A :: dataT A :: ts))
    (c : Chg v.ownBlock.toList w1 wn) (hn : n = A.length + 1) (ol : wn.ownsRow 0 49 3 vn n ((A.map pvSlot).flatten ++ [.int .i64 (d.m : Int), .int .i64 (d.r : Int), bv])) (nb : ∀ k, vn.ownBlock = some k → v.ownBlock = some k ∨ w1.heap.size ≤ k) :
    Side w0 wn (X :: Y :: Z :: listT vn (A ++ [(d, bv)]) :: dataT (A ++ [(d, bv)]) :: ts) := by
  have h1 : Side w0 w1 (listT v A :: X :: Y :: Z :: B :: ownT e8 bv (ub d.bs) :: dataT A :: ts) := ((((h.front 1).front 4).front 4).front 4).front 5
  have h2 : Side w0 wn (listT vn (A ++ [(d, bv)]) :: X :: Y :: Z :: B :: ownT e8 bv (ub d.bs) :: dataT A :: ts) := by
    refine h1.turn c (fun k hk => .inl hk) (⟨pv_slots _, ?_⟩ : OwnW 3 wn 0 49 vn ((A ++ [(d, bv)]).map pvSlot)) (fun k hk => ?_)
    · have e : ((A ++ [(d, bv)]).map pvSlot).flatten = (A.map pvSlot).flatten ++ [.int .i64 (d.m : Int), .int .i64 (d.r : Int), bv] := by
        rw [flat_append3]
        rfl
      rw [e, List.length_map, List.length_append, List.length_singleton, ← hn]
      exact ol
    · have hk' : vn.ownBlock = some k := by simpa [listT, wideT] using hk
      rcases nb k hk' with q | q
      · exact .inl (by show k ∈ v.ownBlock.toList; simp [q])
      · exact .inr q
  have h3 : Side w0 wn (ownT e8 bv (ub d.bs) :: dataT A :: listT vn (A ++ [(d, bv)]) :: X :: Y :: Z :: B :: ts) := (h2.front 6).front 6
  have h4 : Side w0 wn (dataT (A ++ [(d, bv)]) :: listT vn (A ++ [(d, bv)]) :: X :: Y :: Z :: B :: ts) := by
    unfold dataT
    rw [List.map_append]
    exact h3.pool
  have h5 : Side w0 wn (dataT (A ++ [(d, bv)]) :: listT vn (A ++ [(d, bv)]) :: X :: Y :: Z :: ts) := (h4.front 5).tail
  exact (((h5.front 1).front 4).front 4).front 4

/-- What All hands out: the way, and the lift is empty, at its end. -/
def Alls (w0 : World) (P row : Nat) (S : List Pd) (ts : List Thing) (e : Ending) (w' : World) : Prop :=
  ∃ v A lv', e = .returned v ∧ Hid (dOf A = Lf.way row S) ∧ Hid (Side w0 w' (lfT P lv' (Lf.stop row (Lf.way row S)) :: listT lv' [] :: dataT [] :: listT v A :: dataT A :: ts))

set_option maxHeartbeats 4000000 in
set_option maxRecDepth 100000 in
theorem refAll_any {w0 w : World} {ts : List Thing} (P row : Nat) (lv : Value) (L : List Pv) (S : List Pd) (hrep : Rep L S) (hl : S.length ≤ 100000) (h : Side w0 w (lfT P lv row :: listT lv L :: dataT L :: ts)) :
    Calls Try.prog 15 #[.pointer (some ⟨P, 0, none⟩)] w (Alls w0 P row S ts) := by
  obtain ⟨i0, hi, hz0, hz1, hz2⟩ := info_parts info_patch
  replace hi := Lib.hid hi
  replace hz0 := Lib.hid hz0
  replace hz1 := Lib.hid hz1
  replace hz2 := Lib.hid hz2
  have HL := Lib.hid hl
  have H0 : Hid (Side w0 w (lfT P lv row :: listT lv L :: dataT L :: listT (.slice none 0 0) [] :: dataT [] :: ts)) := by
    have h1 : Side w0 w (dataT [] :: lfT P lv row :: listT lv L :: dataT L :: ts) := h.add (Chg.refl _ _) (Pool.nil w) (fun k hk => by simp [dataT, poolT, rowsOf] at hk)
    have h2 : Side w0 w (listT (.slice none 0 0) [] :: dataT [] :: lfT P lv row :: listT lv L :: dataT L :: ts) := h1.add (Chg.refl _ _) (OwnW.nil 3 w 0 _) (fun k hk => by simp [listT, wideT, Value.ownBlock] at hk)
    exact ((h2.front 4).front 4).front 4
  have HR := Lib.hid hrep
  clear hrep hl h
  go_enter Try.func15, Try.ntmps15
  go_wp2_with fail
  go_loopw [3] (fun o wr => ∃ (A : List Pv) (lv' : Value) (L' : List Pv) (S' : List Pd) (row' : Nat), Hid (dOf A ++ Lf.way row' S' = Lf.way row S) ∧ Hid (Lf.stop row' (Lf.way row' S') = Lf.stop row (Lf.way row S)) ∧ Hid (Rep L' S') ∧ Hid (vlen o = A.length) ∧ Hid (Side w0 wr (lfT P lv' row' :: listT lv' L' :: dataT L' :: listT o A :: dataT A :: ts))) (fun o _ => S.length - vlen o)
  case atStart => exact ⟨[], lv, L, S, row, rfl, rfl, HR, rfl, H0⟩
  case round =>
    obtain ⟨A, lv', L', S', row', WY, ST, RP, VL, H⟩ := hrel
    clear H0
    have p0 : wr.cell? ⟨P, 0, none⟩ = some lv' := (H.out.get 0 rfl : Blk _ _ _ _).cell (j := 0) rfl
    have OW := Lib.hid (show OwnW 3 wr 0 49 lv' (L'.map pvSlot) from H.out.get 1 rfl)
    obtain ⟨lo, lc, hlv⟩ := OW.out.slice
    rw [List.length_map] at hlv
    subst hlv
    have OA := Lib.hid (show OwnW 3 wr 0 49 u3 (A.map pvSlot) from H.out.get 3 rfl)
    obtain ⟨ao, ac, hav⟩ := OA.out.slice
    rw [List.length_map] at hav
    subst hav
    have LN : Hid (A.length + S'.length = S.length) := by
      have h := congrArg List.length WY.out
      rw [List.length_append, Lf.way_len, Lf.way_len] at h
      unfold dOf at h
      rw [List.length_map] at h
      exact h
    have LS := Lib.hid (RP_len RP.out)
    by_cases hne : L'.length = 0
    · have hg : ¬ (0 : Int) < L'.length := by omega
      have hL : L' = [] := List.eq_nil_of_length_eq_zero hne
      subst hL
      have hS := RP.out.empty
      subst hS
      have e1 : Hid (dOf A = Lf.way row S) := by
        have h := WY.out
        rw [show Lf.way row' [] = [] from rfl, List.append_nil] at h
        exact h
      have e2 : Hid (row' = Lf.stop row (Lf.way row S)) := by
        have h := ST.out
        exact h
      go_wp2_with fail
      go_ret
      exact ⟨_, A, _, rfl, e1, by rw [← e2.out]; exact H⟩
    · have hg : (0 : Int) < L'.length := by omega
      have HNE := Lib.hid hne
      have NX := Lib.hid (refNext_any (ts := listT (.slice ao A.length ac) A :: dataT A :: ts) P row' _ L' S' RP.out (by have := HL.out; have := LN.out; have := LS.out; omega) H.out)
      clear hne
      go_wp2_with fail
      refine NX.out.mono ?_
      rintro e w2 (⟨hS, _⟩ | ⟨d, v8, e8, lv2, L2, hw, hd, hr2, hl2, rfl, H2⟩)
      · rw [hS] at LS
        exact absurd LS.out HNE.out
      · have HW := Lib.hid hw
        have R2 := Lib.hid hr2
        clear NX hw hd hr2 hl2 p0 OW OA H
        obtain ⟨vo, vc, rfl⟩ : ∃ vo vc, v8 = .slice vo (ub d.bs).length vc := by
          have o : w2.ownsRow 0 e8 1 v8 (ub d.bs).length (ub d.bs) := H2.out.get 0 rfl
          exact owns_slice o
        have OA := Lib.hid (show OwnW 3 w2 0 49 (.slice ao A.length ac) (A.map pvSlot) from H2.out.get 4 rfl)
        have OR : Hid (w2.ownsRow 0 49 3 (.slice ao A.length ac) A.length (A.map pvSlot).flatten) := by have := OA.out.2; rw [List.length_map] at this; exact this
        have H3 : Hid (Side w0 (w2.alloc (.cells #[.int .i64 (d.m : Int), .int .i64 (d.r : Int), .slice vo (ub d.bs).length vc] 49)) (ownT e8 (.slice vo (ub d.bs).length vc) (ub d.bs) :: blkT w2.heap.size 49 [.int .i64 (d.m : Int), .int .i64 (d.r : Int), .slice vo (ub d.bs).length vc] :: lfT P lv2 d.r :: listT lv2 L2 :: dataT L2 :: listT (.slice ao A.length ac) A :: dataT A :: ts)) := by
          have h1 : Side w0 (w2.alloc (.cells #[.int .i64 (d.m : Int), .int .i64 (d.r : Int), .slice vo (ub d.bs).length vc] 49)) (blkT w2.heap.size 49 [.int .i64 (d.m : Int), .int .i64 (d.r : Int), .slice vo (ub d.bs).length vc] :: _) := H2.out.add ((Chg.refl _ _).alloc _) (Blk.made w2 [_, _, _] _) (fun k hk => by rw [List.mem_singleton.1 hk]; exact Nat.le_refl _)
          exact h1.front 1
        have B1 : Hid (A.length + 1 ≤ maxLen) := by have := HL.out; have := LN.out; show _ ≤ _; unfold maxLen; omega
        have B2 : Hid ((A.length + 1) * 40 ≤ 140737488355328) := by have := HL.out; have := LN.out; show _ ≤ _; omega
        clear OA
        generalize hN : (ub d.bs).length = N at *
        replace hN := Lib.hid hN
        go_wp2_with (at_builtin; refine wpList_append_three _ rfl (.tmp 17) (.tmp 19) 56 rfl 0 49 i0 (.agg #[.int .i64 0, .int .i64 0, .slice none 0 0]) 3 40 Try.underlying56 hi.out hz0.out hz1.out hz2.out rfl (by decide) _ A.length _ rfl ((OR.out.alloc _).alloc _) ⟨w2.heap.size + 1, 0, none⟩ 1 1 [.int .i64 (d.m : Int), .int .i64 (d.r : Int), .slice vo N vc] rfl rfl (by have := three_new (w2.alloc (.cells #[.int .i64 (d.m : Int), .int .i64 (d.r : Int), .slice vo N vc] 49)) (.int .i64 (d.m : Int)) (.int .i64 (d.r : Int)) (.slice vo N vc) 49; simpa using this) (by simp [Value.oneCell']) B1.out B2.out (Nat.zero_le _) ?_; intro vn wn ol gr nb)
        have gr2 : World.grownBy _ wn (Value.slice ao A.length ac).ownBlock := gr.out
        have nb2 : vn.ownBlock = (Value.slice ao A.length ac).ownBlock ∨ _ := nb.out
        have CG : Hid (Chg (Value.slice ao A.length ac).ownBlock.toList (w2.alloc (.cells #[.int .i64 (d.m : Int), .int .i64 (d.r : Int), .slice vo N vc] 49)) wn) := (((Chg.refl [] _).alloc _).mono (by simp)).grown gr2 (fun k hk => .inl (by rw [hk]; simp))
        have H4 := Lib.hid (gather (d := d) H3.out CG.out rfl ol.out (nb_of nb2 (by simp)))
        have hvl : Hid (vlen vn = A.length + 1) := by obtain ⟨a, c, e⟩ := owns_slice ol.out; rw [e]; rfl
        refine ⟨⟨A ++ [(d, .slice vo N vc)], lv2, L2, Lf.out d S', d.r, ?_, ?_, R2, ?_, H4⟩, ?_⟩
        · show _ = _
          rw [← WY.out, HW.out]
          unfold dOf
          rw [List.map_append, List.append_assoc]
          rfl
        · show _ = _
          rw [← ST.out, HW.out, Lf.stop_cons]
        · show _ = _
          rw [hvl.out, List.length_append]
          rfl
        · have := LN.out
          have := LS.out
          have := HNE.out
          have := hvl.out
          show S.length - vlen vn < S.length - A.length
          omega

end Go.Proofs.Ytihmegpcbpdipaa
