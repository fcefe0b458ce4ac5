/-
  The program's scan: whether a batch may be written. By an AI agent.
-/
import Derived.Test.YtkafkdlgflkjgaaGreatBScCom
import Derived.Deep.RegionHeld3
import Derived.Test.YtkafkdlgflkjgaaGreatBGOrder
import Derived.Test.YtkafkdlgflkjgaaGreatBGPv
import Derived.RangeFuncFrom
import Derived.Test.YtkafkdlgflkjgaaGreatBScSpec
import Derived.Test.YtkafkdlgflkjgaaGreatBRcPk
import Derived.Test.YtkafkdlgflkjgaaGreatBRcEsc
import Derived.RangeFuncCalls
import Derived.OrdersIn
import Derived.WalkMore
import Derived.Test.YtkafkdlgflkjgaaGreatBGIn
import Derived.Test.YtkafkdlgflkjgaaGreatBGOwnMem
import Derived.Deep.QuietTactic
import Derived.BigQuiet
import Derived.StillTailTactics
namespace Go.Proofs.YtkafkdlgflkjgaaGreat
open Crc Go.RowKit

def farP (d : PtD) : Bool := decide (d.m < 0 ∨ 15 < d.m ∨ d.r < 0 ∨ 4095 < d.r)
def shortP (d : PtD) : Bool := decide (d.d.length ≠ 128)
def farN (ep sq : Nat) : Prop := 4611686018427387904 < ep ∨ sq < 1 ∨ 4611686018427387904 < sq

instance (ep sq : Nat) : Decidable (farN ep sq) := by unfold farN; infer_instance

/-- What Sectors refuses. -/
def scErr (ep sq : Nat) (ds : List PtD) : Int := if 1 ≤ ds.length ∧ ds.length ≤ 1023 then (if farN ep sq ∨ ds.any farP = true then 3 else if ds.any shortP = true then 4 else 0) else 1

theorem any_take {f : PtD → Bool} {ds : List PtD} {k : Nat} {d : PtD} (hd : ds[k]? = some d) (h : (ds.take k).any f = false) : (ds.take (k + 1)).any f = f d := by
 rw [take_snoc hd, List.any_append, h]
 simp

theorem any_at {f : PtD → Bool} {ds : List PtD} {k : Nat} {d : PtD} (hd : ds[k]? = some d) (h : f d = true) : ds.any f = true := List.any_eq_true.2 ⟨d, List.mem_of_getElem? hd, h⟩

set_option maxHeartbeats 4000000 in
set_option maxRecDepth 100000 in
theorem check_any (ep sq : Nat) (v : Value) (ds : List PtD) (w : World) (h : Pts w v ds) : Calls Tryz.prog 158 #[.int .u64 (ep : Int), .agg #[.int .u64 (sq : Int), v]] w fun e w' => e = .returned (.int .u16 (scErr ep sq ds)) ∧ Hid (Chg [] w w') := by
 obtain ⟨ao, vc, rfl⟩ := h.slice
 have big := h.len
 have HP : Hid (∀ w', Chg [] w w' → Pts w' (.slice ao ds.length vc) ds) := fun w' c => h.chg c
 have wi : Hid (∀ n a b w, Calls Tryz.prog 176 #[.int .i64 n, .int .i64 a, .int .i64 b] w fun e w' => e = .returned (.bool (decide (a ≤ n ∧ n ≤ b))) ∧ w = w') := fun n a b w => scwithin_any n a b w
 have SE : Hid (∀ E, scErr ep sq ds = E → scErr ep sq ds = E) := fun E h => h
 clear h
 have W0 : Hid (∀ w', Chg [] (w.alloc (.cells #[.int .u64 (sq : Int), .slice ao ds.length vc] 92)) w' → w'.cell? ⟨w.heap.size, 0, none⟩ = some (.int .u64 (sq : Int)) ∧ w'.cell? ⟨w.heap.size, 1, none⟩ = some (.slice ao ds.length vc) ∧ Chg [] w w') := fun w' c =>
  ⟨((Blk.made w _ _).chg c (by simp)).cell (j := 0) rfl, ((Blk.made w _ _).chg c (by simp)).cell (j := 1) rfl, ((Chg.refl _ _).alloc _).trans c⟩
 by_cases h1 : 1 ≤ (ds.length : Int) ∧ (ds.length : Int) ≤ 1023
 case neg =>
  have e1 : scErr ep sq ds = 1 := by unfold scErr; rw [if_neg (by omega)]
  have w1 := Lib.hid (wi.out (ds.length : Int) 1 1023)
  rw [decide_eq_false h1] at w1
  rw [e1]
  clear e1 SE h1
  go_enter Tryz.func158, Tryz.ntmps158
  go_wp2_with (go_at_call 176; refine (w1.out _).mono ?_; rintro e w' ⟨rfl, rfl⟩)
  go_ret
  exact ⟨rfl, (W0.out _ (Chg.refl _ _)).2.2⟩
 have w1 := Lib.hid (wi.out (ds.length : Int) 1 1023)
 rw [decide_eq_true h1] at w1
 have e1 : scErr ep sq ds = (if farN ep sq ∨ ds.any farP = true then 3 else if ds.any shortP = true then 4 else 0) := by unfold scErr; rw [if_pos (by omega)]
 by_cases h2 : farN ep sq
 case pos =>
  rw [e1, if_pos (.inl h2)]
  clear e1 SE h1
  have h2' : (4611686018427387904 : Int) < ep ∨ (ep : Int) ≤ 4611686018427387904 ∧ (sq : Int) < 1 ∨ (ep : Int) ≤ 4611686018427387904 ∧ 1 ≤ (sq : Int) ∧ (4611686018427387904 : Int) < sq := by unfold farN at h2; omega
  clear h2
  go_enter Tryz.func158, Tryz.ntmps158
  rcases h2' with h | ⟨h, k⟩ | ⟨h, k, l⟩
  all_goals go_wp2_with (go_at_call 176; refine (w1.out _).mono ?_; rintro e w' ⟨rfl, rfl⟩)
  all_goals go_ret
  all_goals exact ⟨rfl, (W0.out _ (Chg.refl _ _)).2.2⟩
 have g1 : ¬ (4611686018427387904 : Int) < ep := by unfold farN at h2; omega
 have g2 : ¬ (sq : Int) < 1 := by unfold farN at h2; omega
 have g3 : ¬ (4611686018427387904 : Int) < sq := by unfold farN at h2; omega
 have e2 : Hid (scErr ep sq ds = (if ds.any farP = true then 3 else if ds.any shortP = true then 4 else 0)) := by
  show _ = _
  rw [e1]
  by_cases c : ds.any farP = true
  ·rw [if_pos (.inr c), if_pos c]
  ·rw [if_neg (fun k => k.elim h2 c), if_neg c]
 generalize scErr ep sq ds = E at *
 clear e1 h2 h1 SE
 go_enter Tryz.func158, Tryz.ntmps158
 go_wp2_with (go_at_call 176; refine (w1.out _).mono ?_; rintro e w' ⟨rfl, rfl⟩)
 clear g1 g2 g3 w1
 have C0 := Lib.hid (Chg.refl [] (w.alloc (.cells #[.int .u64 (sq : Int), .slice ao ds.length vc] 92)))
 generalize hwb : (w.alloc (.cells #[.int .u64 (sq : Int), .slice ao ds.length vc] 92)) = wb at *
 clear hwb
 go_loopw [29] (fun i wr => ∃ k : Nat, k ≤ ds.length ∧ i = .int .i64 k ∧ Hid ((ds.take k).any farP = false) ∧ Hid (Chg [] wb wr)) (fun i _ => ds.length - (intOf i).toNat)
 case atStart => exact ⟨0, Nat.zero_le _, rfl, (by show _ = _; simp), Chg.refl _ _⟩
 case round =>
  obtain ⟨k, hk, rfl, NF, CR⟩ := hrel
  obtain ⟨y0, y1, CW⟩ := W0.out _ CR.out
  replace CW := Lib.hid CW
  by_cases hlt : k < ds.length
  ·obtain ⟨x, hx⟩ : ∃ x, ds[k]? = some x := ⟨_, List.getElem?_eq_getElem hlt⟩
   obtain ⟨b, o, rfl, hbl, I⟩ := (HP.out _ CW.out).at hx
   have c0 := I.c0
   have c1 := I.c1
   have c2 := I.c2
   obtain ⟨xo, xc, hxv⟩ := I.sl.slice
   rw [hxv] at c2
   obtain ⟨xm, xr, xv, xd⟩ := x
   dsimp only at c0 c1 c2 hxv
   have HX := Lib.hid hx
   have nl : xd.length < 9223372036854775807 := by have := I.big; dsimp only at this; omega
   obtain ⟨N, hN⟩ : ∃ N, N = xd.length := ⟨_, rfl⟩
   rw [← hN] at c2 nl
   clear hx hxv hN I
   have hi0 : (0 : Int) ≤ k := Int.natCast_nonneg _
   have hi1 : (k : Int) < ds.length := by omega
   have wm := Lib.hid (wi.out xm 0 15)
   have wr' := Lib.hid (wi.out xr 0 4095)
   by_cases hf : farP ⟨xm, xr, xv, xd⟩ = true
   ·have e3 : E = 3 := by rw [e2.out, if_pos (any_at HX.out hf)]
    have hf' : (xm < 0 ∨ 15 < xm) ∨ (0 ≤ xm ∧ xm ≤ 15 ∧ (xr < 0 ∨ 4095 < xr)) := by unfold farP at hf; have := of_decide_eq_true hf; dsimp only at this; omega
    subst e3
    clear hf NF e2
    rcases hf' with hf | ⟨ha, hb, hc⟩
    ·rw [decide_eq_false (by omega)] at wm
     clear hf
     go_wp2_with (go_at_call 176; refine (wm.out _).mono ?_; rintro e w' ⟨rfl, rfl⟩)
     go_ret
     exact ⟨rfl, CW.out.alloc _⟩
    ·rw [decide_eq_true ⟨ha, hb⟩] at wm
     rw [decide_eq_false (by omega)] at wr'
     clear ha hb hc
     go_wp2_with (first | (go_at_call 176; with_reducible refine (wm.out _).mono ?_; rintro e w' ⟨rfl, rfl⟩; clear wm) | (go_at_call 176; refine (wr'.out _).mono ?_; rintro e w' ⟨rfl, rfl⟩))
     go_ret
     exact ⟨rfl, CW.out.alloc _⟩
   ·have hf' : 0 ≤ xm ∧ xm ≤ 15 ∧ 0 ≤ xr ∧ xr ≤ 4095 := by unfold farP at hf; simp at hf; omega
    have NF2 : Hid ((ds.take (k + 1)).any farP = false) := by show _ = _; rw [any_take HX.out NF.out]; simpa using hf
    obtain ⟨ha, hb, hc, hd⟩ := hf'
    rw [decide_eq_true ⟨ha, hb⟩] at wm
    rw [decide_eq_true ⟨hc, hd⟩] at wr'
    clear ha hb hc hd hf NF
    have CR2 := Lib.hid (CR.out.alloc (.cells #[.int .i64 xm, .int .i64 xr, .slice xo N xc] 105))
    go_wp2_with (first | (go_at_call 176; with_reducible refine (wm.out _).mono ?_; rintro e w' ⟨rfl, rfl⟩; clear wm) | (go_at_call 176; refine (wr'.out _).mono ?_; rintro e w' ⟨rfl, rfl⟩))
    exact ⟨⟨k + 1, by omega, by go_num, NF2, CR2⟩, by simp [intOf]; omega⟩
  ·obtain rfl : k = ds.length := by omega
   have e4 : Hid (E = if ds.any shortP = true then 4 else 0) := by
    show _ = _
    have h := NF.out
    rw [List.take_length] at h
    rw [e2.out, if_neg (by rw [h]; decide)]
   clear e2 NF hlt hk
   go_wp2_with fail
   obtain ⟨wc, hwc⟩ : ∃ wc, wc = wr := ⟨_, rfl⟩
   subst hwc
   go_loopw [47] (fun i wr => ∃ k : Nat, k ≤ ds.length ∧ i = .int .i64 k ∧ Hid ((ds.take k).any shortP = false) ∧ Hid (Chg [] wb wr)) (fun i _ => ds.length - (intOf i).toNat)
   case atStart => exact ⟨0, Nat.zero_le _, rfl, (by show _ = _; simp), CR⟩
   case round =>
    obtain ⟨k, hk, rfl, NS, CR⟩ := hrel
    clear CW y0 y1
    obtain ⟨y0, y1, CW⟩ := W0.out _ CR.out
    replace CW := Lib.hid CW
    by_cases hlt : k < ds.length
    ·obtain ⟨x, hx⟩ : ∃ x, ds[k]? = some x := ⟨_, List.getElem?_eq_getElem hlt⟩
     obtain ⟨b, o, rfl, hbl, I⟩ := (HP.out _ CW.out).at hx
     have c0 := I.c0
     have c1 := I.c1
     have c2 := I.c2
     obtain ⟨xo, xc, hxv⟩ := I.sl.slice
     rw [hxv] at c2
     obtain ⟨xm, xr, xv, xd⟩ := x
     dsimp only at c0 c1 c2 hxv
     have HX := Lib.hid hx
     obtain ⟨N, hN⟩ : ∃ N, N = xd.length := ⟨_, rfl⟩
     rw [← hN] at c2
     have hi0 : (0 : Int) ≤ k := Int.natCast_nonneg _
     have hi1 : (k : Int) < ds.length := by omega
     by_cases hs : N = 128
     ·have NS2 : Hid ((ds.take (k + 1)).any shortP = false) := by show _ = _; rw [any_take HX.out NS.out]; simp [shortP, ← hN, hs]
      subst hs
      clear hx hxv I NS hN
      have CR2 := Lib.hid (CR.out.alloc (.cells #[.int .i64 xm, .int .i64 xr, .slice xo 128 xc] 105))
      go_wp2_with fail
      exact ⟨⟨k + 1, by omega, by go_num, NS2, CR2⟩, by simp [intOf]; omega⟩
     ·have e5 : E = 4 := by rw [e4.out, if_pos (any_at HX.out (by simp [shortP, ← hN, hs]))]
      subst e5
      have hs2 : ((N : Int) != 128) = true := by simp; omega
      clear hx hxv I NS e4 hN
      go_wp2_with fail
      go_ret
      exact ⟨rfl, CW.out.alloc _⟩
    ·have e5 : E = 0 := by
      rw [e4.out]
      obtain rfl : k = ds.length := by omega
      have h := NS.out
      rw [List.take_length] at h
      rw [if_neg (by rw [h]; decide)]
     subst e5
     have hge : ¬ (k : Int) < ds.length := by omega
     clear e4 NS hlt hk
     go_wp2_with fail
     go_ret
     exact ⟨rfl, CW.out⟩


theorem runH_field {P : Program} {S : World → Prop} {a : Act} {t : TypeId} {x : Operand} {k : Nat} {u v : Value} (hx : a.eval x = u) (h : ∀ w : World, (Instr.fieldAt t u k).run P w = .ok v w) : ∀ (ρ : Operand → Value), ρ = a.eval → ∀ o : Oper, o.op = .fieldAddr t x k → ∀ w, S w → (execOp ρ o).run P w = .ok (.value v) w := by
 intro ρ hρ o ho w _
 subst hρ
 exact run_field_at _ hx h o ho w

theorem runH_nil {P : Program} {S : World → Prop} {a : Act} {x : Operand} {p : Addr} (hx : a.eval x = .pointer (some p)) : ∀ (ρ : Operand → Value), ρ = a.eval → ∀ o : Oper, o.op = .nilCheck x → ∀ w, S w → (execOp ρ o).run P w = .ok (.value (.pointer (some p))) w := by
 intro ρ hρ o ho w _
 subst hρ
 exact run_nil_at _ hx o ho w

section
variable {P : Program} {md : Region.Mode} {ops : Array Oper} {R : Act → World → Prop} {S : World → Prop} {fuel : Nat} {listed : Array Bool} {a : Act} {w : World} {i : Nat}

/-- One that reads, where it comes up. -/
theorem readyH_load {d : Tmp} {rs : List Nat} {t : TypeId} {x : Operand} {u v : Value} (h : OpIs ops i (some d) (.load t x)) (hx : a.eval x = u) (hrun : (Instr.loadAt t u).run P w = .ok v w) {l' : Array Bool} (hl : listed.setIfInBounds i true = l') {a' : Act} (ha : a.put (some d) v = a') (hS : S w)
 (k : wpAnyH P md ops (cutQ R) S fuel l' a' w) (hs : AllReadyH P md ops (cutQ R) S fuel listed a w rs) : AllReadyH P md ops (cutQ R) S fuel listed a w (i :: rs) := by
 refine readyH_op h hl (fun o K hop hd hK => ?_) hs
 unfold Oper.wp execOp
 simp only [hop, hx]
 simp [hrun]
 rw [Oper.upon_value, hd, ha]
 exact hK _ _ hS k

theorem readyH_field {d : Tmp} {rs : List Nat} {t : TypeId} {x : Operand} {k : Nat} {u v : Value} (h : OpIs ops i (some d) (.fieldAddr t x k)) (hx : a.eval x = u) (hrun : (Instr.fieldAt t u k).run P w = .ok v w) {l' : Array Bool} (hl : listed.setIfInBounds i true = l') {a' : Act} (ha : a.put (some d) v = a') (hS : S w)
 (q : wpAnyH P md ops (cutQ R) S fuel l' a' w) (hs : AllReadyH P md ops (cutQ R) S fuel listed a w rs) : AllReadyH P md ops (cutQ R) S fuel listed a w (i :: rs) := by
 refine readyH_op h hl (fun o K hop hd hK => ?_) hs
 unfold Oper.wp execOp
 simp only [hop, hx]
 simp [hrun]
 rw [Oper.upon_value, hd, ha]
 exact hK _ _ hS q

/-- A slice literal. -/
theorem readyH_literal {d : Tmp} {rs : List Nat} {t : TypeId} {n : Nat} {parts : Array (Nat × Operand)} {vs : Array (Nat × Value)} {e : TypeId} {cs : List Value} (h : OpIs ops i (some d) (.buildSlice t n parts)) (hv : parts.map (fun p => (p.1, a.eval p.2)) = vs)
 (hrun : (Instr.buildSlice t n vs).run P w = .ok (.slice (some ⟨w.heap.size, 0, none⟩) n n) (w.alloc (.cells cs.toArray e))) {l' : Array Bool} (hl : listed.setIfInBounds i true = l') {a' : Act} (ha : a.put (some d) (.slice (some ⟨w.heap.size, 0, none⟩) n n) = a')
 (hS : S (w.alloc (.cells cs.toArray e))) (k : wpAnyH P md ops (cutQ R) S fuel l' a' (w.alloc (.cells cs.toArray e)))
 (hs : AllReadyH P md ops (cutQ R) S fuel listed a w rs) : AllReadyH P md ops (cutQ R) S fuel listed a w (i :: rs) := by
 refine readyH_op h hl (fun o K hop hd hK => ?_) hs
 unfold Oper.wp execOp
 simp only [hop]
 rw [← hv] at hrun
 simp [hrun]
 rw [Oper.upon_value, hd, ha]
 exact hK _ _ hS k

theorem readyH_append {d : Tmp} {rs : List Nat} {s x : Operand} {t : TypeId} {v y : Value} {Φ : Value → World → Prop} (h : OpIs ops i (some d) (.call { callee := .builtin .append, args := #[s, x], argTypes := #[t, t] })) (hs0 : a.eval s = v) (hx : a.eval x = y)
 (hrun : ∀ ty, ∃ v' w', (Builtin.append_ #[t, t] ty #[v, y]).run P w = .ok v' w' ∧ Φ v' w') {l' : Array Bool} (hl : listed.setIfInBounds i true = l')
 (k : ∀ v' w', Φ v' w' → ∃ a', a.put (some d) v' = a' ∧ S w' ∧ wpAnyH P md ops (cutQ R) S fuel l' a' w')
 (hs : AllReadyH P md ops (cutQ R) S fuel listed a w rs) : AllReadyH P md ops (cutQ R) S fuel listed a w (i :: rs) := by
 refine readyH_op h hl (fun o K hop hd hK => ?_) hs
 obtain ⟨v', w', hr, hp⟩ := hrun o.type
 obtain ⟨a', ha, hS, q⟩ := k v' w' hp
 unfold Oper.wp
 simp [execOp, hop, resolve, invoke, builtin, hs0, hx, hr, Result.andThen]
 rw [Oper.upon_value, hd, ha]
 exact hK _ _ hS q

theorem readyH_store1 {rs : List Nat} {t : TypeId} {x y : Operand} {p v : Value} {w' : World} (h : OpIs ops i none (.store t x y)) (hx : a.eval x = p) (hy : a.eval y = v)
 (hr : (Instr.storeAt t p v).run P w = .ok () w') {l' : Array Bool} (hl : listed.setIfInBounds i true = l')
 (hS : S w') (k : wpAnyH P md ops (cutQ R) S fuel l' a w')
 (hs : AllReadyH P md ops (cutQ R) S fuel listed a w rs) : AllReadyH P md ops (cutQ R) S fuel listed a w (i :: rs) := by
 refine readyH_op h hl (fun o K hop hd hK => ?_) hs
 unfold Oper.wp execOp
 simp only [hop, hx, hy]
 simp [hr]
 first
  | (rw [Oper.upon_skip, hd]; exact hK _ _ hS k)
  | (unfold Oper.upon; simp [hd]; exact hK _ _ hS k)

end

/-- A list of values of several cells has one more. -/
theorem more_wide {w0 w1 wn : World} {ts : List Thing} {s n : Nat} {e : TypeId} {v vn : Value} {A : List (List Value)} {x : List Value} (h : Side w0 w1 (wideT s e v A :: ts)) (hx : x.length = s)
 (c : Chg v.ownBlock.toList w1 wn) (hn : n = A.length + 1) (ol : wn.ownsRow 0 e s vn n (A.flatten ++ x)) (nb : ∀ k, vn.ownBlock = some k → v.ownBlock = some k ∨ w1.heap.size ≤ k) :
 Side w0 wn (wideT s e vn (A ++ [x]) :: ts) := by
 have h0 : OwnW s w1 0 e v A := h.get 0 rfl
 refine h.turn c (fun k hk => .inl hk) (⟨h0.1.app (fun y hy => by rw [List.mem_singleton.1 hy]; exact hx), ?_⟩ : OwnW s wn 0 e vn (A ++ [x])) (fun k hk => ?_)
 ·rw [List.length_append, List.length_singleton, ← hn, List.flatten_append, List.flatten_singleton]
  exact ol
 ·have hk' : vn.ownBlock = some k := by simpa [wideT] using hk
  rcases nb k hk' with q | q
  ·exact .inl (by show k ∈ v.ownBlock.toList; simp [q])
  ·exact .inr q


structure PoolW (s : Nat) (w : World) (e : TypeId) (vs : Wides) : Prop where
 row : ∀ p ∈ vs, OwnW s w 0 e p.1 p.2
 apart : vs.Pairwise fun p q => ∀ g, p.1.ownBlock = some g → q.1.ownBlock ≠ some g

theorem blocksOf_cons (p : Value × List (List Value)) (vs : Wides) : blocksOf (p :: vs) = p.1.ownBlock.toList ++ blocksOf vs := by
 unfold blocksOf
 cases h : p.1.ownBlock <;> simp [h]

theorem blocksOf_app (a b : Wides) : blocksOf (a ++ b) = blocksOf a ++ blocksOf b := by simp [blocksOf]

def poolWT (s : Nat) (e : TypeId) (vs : Wides) : Thing where
 F := blocksOf vs
 P := fun w => PoolW s w e vs
 lt := fun w h k hk => by
  obtain ⟨j, v, xs, hj, hg⟩ := blocksOf_spec hk
  exact ((h.row _ (List.mem_of_getElem? hj)).lt k hg).2
 stays := fun w w' t h c hs => ⟨fun p hp => (h.row p hp).chg c (fun k hk => hs k (by
  obtain ⟨j, hj⟩ := List.mem_iff_getElem?.1 hp
  exact blocksOf_mem (v := p.1) (xs := p.2) hj hk)), h.apart⟩

theorem PoolW.nil (s : Nat) (w : World) (e : TypeId) : PoolW s w e [] := ⟨fun p hp => (by cases hp), List.Pairwise.nil⟩

/-- One more among them. -/
theorem Side.poolW {w0 w : World} {ts : List Thing} {s : Nat} {e : TypeId} {v : Value} {xs : List (List Value)} {vs : Wides} (h : Side w0 w (wideT s e v xs :: poolWT s e vs :: ts)) : Side w0 w (poolWT s e (vs ++ [(v, xs)]) :: ts) := by
 have ho : OwnW s w 0 e v xs := h.get 0 rfl
 have hp : PoolW s w e vs := h.get 1 rfl
 have hoff : ∀ k, v.ownBlock = some k → k ∉ blocksOf vs := fun k hk hm => (List.pairwise_cons.1 h.apart).1 _ List.mem_cons_self k (by simp [wideT, hk]) hm
 refine h.join (Chg.refl [] w) (fun k hk => by cases hk) ⟨fun p hp2 => ?_, ?_⟩ (fun k hk => ?_)
 ·rcases List.mem_append.1 hp2 with q | q
  ·exact hp.row p q
  ·rw [List.mem_singleton.1 q]
   exact ho
 ·refine List.pairwise_append.2 ⟨hp.apart, List.pairwise_singleton _ _, fun p hp2 q hq g hg hg2 => ?_⟩
  rw [List.mem_singleton.1 hq] at hg2
  obtain ⟨j, hj⟩ := List.mem_iff_getElem?.1 hp2
  exact hoff g hg2 (blocksOf_mem (v := p.1) (xs := p.2) hj hg)
 ·have hk2 : k ∈ blocksOf (vs ++ [(v, xs)]) := hk
  rw [blocksOf_app] at hk2
  rcases List.mem_append.1 hk2 with q | q
  ·exact .inr (.inl q)
  ·rw [blocksOf_cons] at q
   rcases List.mem_append.1 q with q | q
   ·exact .inl q
   ·simp [blocksOf] at q

/-- Two pools put together. -/
theorem Side.poolJoin {w0 w : World} {ts : List Thing} {us vs : List (Value × List Value)} (h : Side w0 w (poolT us :: poolT vs :: ts)) : Side w0 w (poolT (vs ++ us) :: ts) := by
 have hu : Pool w us := h.get 0 rfl
 have hv : Pool w vs := h.get 1 rfl
 have hoff : ∀ k, k ∈ rowsOf us → k ∉ rowsOf vs := fun k hk hm => (List.pairwise_cons.1 h.apart).1 _ List.mem_cons_self k hk hm
 refine h.join (Chg.refl [] w) (fun k hk => by cases hk) ⟨fun p hp => ?_, ?_⟩ (fun k hk => ?_)
 ·rcases List.mem_append.1 hp with q | q
  ·exact hv.row p q
  ·exact hu.row p q
 ·refine List.pairwise_append.2 ⟨hv.apart, hu.apart, fun p hp q hq g hg hg2 => ?_⟩
  obtain ⟨j, hj⟩ := List.mem_iff_getElem?.1 hp
  obtain ⟨j2, hj2⟩ := List.mem_iff_getElem?.1 hq
  exact hoff g (rowsOf_mem (v := q.1) (xs := q.2) hj2 hg2) (rowsOf_mem (v := p.1) (xs := p.2) hj hg)
 ·have hk2 : k ∈ rowsOf (vs ++ us) := hk
  rw [rowsOf_append] at hk2
  rcases List.mem_append.1 hk2 with q | q
  ·exact .inr (.inl q)
  ·exact .inl q

/-- A pool parted. -/
theorem Side.poolPart {w0 w : World} {ts : List Thing} {us vs : List (Value × List Value)} (h : Side w0 w (poolT (us ++ vs) :: ts)) : Side w0 w (poolT us :: poolT vs :: ts) := by
 have hp : Pool w (us ++ vs) := h.get 0 rfl
 obtain ⟨a1, a2, a3⟩ := List.pairwise_append.1 hp.apart
 refine Side.swap (olds := [poolT (us ++ vs)]) (bs := [poolT us, poolT vs]) h (Chg.refl [] w) (fun k hk => by cases hk) (fun b hb => ?_) (fun b hb k hk => ?_) (List.pairwise_cons.2 ⟨fun b hb k hk hm => ?_, List.pairwise_singleton _ _⟩)
 ·rcases List.mem_cons.1 hb with rfl | hb
  ·exact ⟨fun p hp2 => hp.row p (List.mem_append_left _ hp2), a1⟩
  ·rw [List.mem_singleton.1 hb]
   exact ⟨fun p hp2 => hp.row p (List.mem_append_right _ hp2), a2⟩
 ·refine .inl ⟨_, List.mem_singleton.2 rfl, ?_⟩
  show k ∈ rowsOf (us ++ vs)
  rw [rowsOf_append]
  rcases List.mem_cons.1 hb with rfl | hb
  ·exact List.mem_append_left _ hk
  ·rw [List.mem_singleton.1 hb] at hk
   exact List.mem_append_right _ hk
 ·rw [List.mem_singleton.1 hb] at hm
  have hk : k ∈ rowsOf us := hk
  have hm : k ∈ rowsOf vs := hm
  obtain ⟨j, v, xs, hj, hg⟩ := rowsOf_spec hk
  obtain ⟨j2, v2, xs2, hj2, hg2⟩ := rowsOf_spec hm
  exact a3 _ (List.mem_of_getElem? hj) _ (List.mem_of_getElem? hj2) k hg hg2

/-- Things made since stand beside those that stood. -/
theorem Side.stack {w0 w w' : World} {ts us : List Thing} (h : Side w0 w ts) (k : Side w w' us) : Side w0 w' (us ++ ts) := by
 have h2 := h.quiet k.chg
 refine ⟨fun t ht => ?_, List.pairwise_append.2 ⟨k.apart, h.apart, fun a ha b hb g hg hg2 => ?_⟩, fun t ht g hg => ?_, h2.chg⟩
 ·rcases List.mem_append.1 ht with q | q
  ·exact k.each t q
  ·exact h2.each t q
 ·have h3 := k.new a ha g hg
  have h4 := b.lt w (h.each b hb) g hg2
  omega
 ·rcases List.mem_append.1 ht with q | q
  ·have := k.new t q g hg
   have := h.size
   omega
  ·exact h.new t q g hg

/-- Its blocks are of cells. -/
def Solid (t : Thing) : Prop := ∀ W, t.P W → ∀ k ∈ t.F, ∃ o : Obj, W.heap[k]? = some o ∧ o.isCells = true

theorem solid_blk (g : Nat) (e : TypeId) (vs : List Value) : Solid (blkT g e vs) := fun W h k hk => by
 rw [List.mem_singleton.1 hk]
 exact ⟨_, h, rfl⟩

theorem owns_solid {W : World} {base : Nat} {e : TypeId} {s : Nat} {v : Value} {n : Nat} {xs : List Value} (h : W.ownsRow base e s v n xs) {k : Nat} (hk : v.ownBlock = some k) : ∃ o : Obj, W.heap[k]? = some o ∧ o.isCells = true := by
 rcases h.2 with ⟨rfl, _⟩ | ⟨g, cap, cur, rfl, _, hg, _⟩
 ·simp [Value.ownBlock] at hk
 ·obtain rfl : g = k := by simpa [Value.ownBlock] using hk
  exact ⟨_, hg, rfl⟩

theorem solid_wide (s : Nat) (e : TypeId) (v : Value) (xs : List (List Value)) : Solid (wideT s e v xs) := fun W h k hk => owns_solid h.2 (by simpa [wideT] using hk)

theorem solid_pool (vs : List (Value × List Value)) : Solid (poolT vs) := fun W h k hk => by
 obtain ⟨j, v, xs, hj, hg⟩ := rowsOf_spec hk
 obtain ⟨e, ho⟩ := h.row _ (List.mem_of_getElem? hj)
 exact owns_solid ho hg

theorem solid_poolW (s : Nat) (e : TypeId) (vs : Wides) : Solid (poolWT s e vs) := fun W h k hk => by
 obtain ⟨j, v, xs, hj, hg⟩ := blocksOf_spec hk
 exact owns_solid (h.row _ (List.mem_of_getElem? hj)).2 hg

/-- They stay while what is not of cells turns. -/
theorem Side.keep {w0 W W' : World} {ts : List Thing} {row : Option Nat} (h : Side w0 W ts) (hs : ∀ t ∈ ts, Solid t) (hg : W.grownBy W' row) (hr : ∀ r, row = some r → w0.heap.size ≤ r ∧ ∃ o : Obj, W.heap[r]? = some o ∧ o.isCells = false) : Side w0 W' ts := by
 have c : Chg row.toList W W' := chg_of_grown hg
 have off : ∀ t ∈ ts, ∀ k ∈ t.F, k ∉ row.toList := fun t ht k hk hm => by
  have e : row = some k := by simpa using hm
  obtain ⟨_, o, ho, hc⟩ := hr k e
  obtain ⟨o2, ho2, hc2⟩ := hs t ht W (h.each t ht) k hk
  rw [ho] at ho2
  obtain rfl := Option.some.inj ho2
  rw [hc] at hc2
  cases hc2
 exact ⟨fun t ht => t.stays W W' _ (h.each t ht) c (off t ht), h.apart, h.new, h.chg.fresh c (fun k hk => .inr (hr k (by simpa using hk)).1)⟩


/-- A list has more. -/
theorem more_wides {w0 w1 wn : World} {ts : List Thing} {s n : Nat} {e : TypeId} {v vn : Value} {A X : List (List Value)} (h : Side w0 w1 (wideT s e v A :: ts)) (hX : Slots s X)
 (c : Chg v.ownBlock.toList w1 wn) (hn : n = A.length + X.length) (ol : wn.ownsRow 0 e s vn n (A.flatten ++ X.flatten)) (nb : ∀ k, vn.ownBlock = some k → v.ownBlock = some k ∨ w1.heap.size ≤ k) :
 Side w0 wn (wideT s e vn (A ++ X) :: ts) := by
 have h0 : OwnW s w1 0 e v A := h.get 0 rfl
 refine h.turn c (fun k hk => .inl hk) (⟨h0.1.app hX, ?_⟩ : OwnW s wn 0 e vn (A ++ X)) (fun k hk => ?_)
 ·rw [List.length_append, ← hn, List.flatten_append]
  exact ol
 ·have hk' : vn.ownBlock = some k := by simpa [wideT] using hk
  rcases nb k hk' with q | q
  ·exact .inl (by show k ∈ v.ownBlock.toList; simp [q])
  ·exact .inr q

abbrev Rw := Value × List Value

def rwSlots (vs : List Rw) : List (List Value) := vs.map fun p => [p.1]

theorem rwSlots_flat (vs : List Rw) : (rwSlots vs).flatten = vs.map (·.1) := by
 induction vs with
 | nil => rfl
 | cons a l ih => simp [rwSlots] at ih ⊢; exact ih

theorem rwSlots_slots (vs : List Rw) : Slots 1 (rwSlots vs) := fun x hx => by
 obtain ⟨p, _, rfl⟩ := List.mem_map.1 hx
 rfl

/-- Rows that came out: the list, and each row. -/
def rowsTs (lv : Value) (vs : List Rw) : List Thing := [wideT 1 65 lv (rwSlots vs), poolT vs]

/-- Rows more. -/
theorem more_rows {w0 w1 wn : World} {n : Nat} {lv lvn : Value} {vs us : List Rw} (h : Side w0 w1 (poolT us :: rowsTs lv vs)) (c : Chg lv.ownBlock.toList w1 wn) (hn : n = vs.length + us.length) (ol : wn.ownsRow 0 65 1 lvn n (vs.map (·.1) ++ us.map (·.1))) (nb : ∀ k, lvn.ownBlock = some k → lv.ownBlock = some k ∨ w1.heap.size ≤ k) :
 Side w0 wn (rowsTs lvn (vs ++ us)) := by
 have h1 : Side w0 w1 (wideT 1 65 lv (rwSlots vs) :: poolT us :: poolT vs :: []) := h.front 1
 have h2 := more_wides (X := rwSlots us) h1 (rwSlots_slots us) c (by simp [rwSlots]; exact hn) (by rw [rwSlots_flat, rwSlots_flat]; exact ol) nb
 have h3 : Side w0 wn (poolT us :: poolT vs :: wideT 1 65 lvn (rwSlots vs ++ rwSlots us) :: []) := (h2.front 2).front 2
 have h4 := h3.poolJoin
 unfold rowsTs
 have e : rwSlots (vs ++ us) = rwSlots vs ++ rwSlots us := by simp [rwSlots]
 rw [e]
 exact h4.front 1

def pdOf (d : PtD) : Pd := ⟨d.m.toNat, d.r.toNat, nats d.d⟩

/-- A patch that is not refused. -/
structure PdIs (d : PtD) (p : Pd) : Prop where
 m : d.m = p.m
 r : d.r = p.r
 d : d.d = ints p.bs
 ok : Sc.PtOk p

theorem pdOf_is {d : PtD} (hb : By d.d) (hf : farP d = false) (hs : shortP d = false) : PdIs d (pdOf d) := by
 unfold farP at hf
 unfold shortP at hs
 have hf := of_decide_eq_false hf
 have hs := of_decide_eq_false hs
 refine ⟨?_, ?_, (ints_nats hb).symm, ?_, ?_, ?_, nats_bs hb⟩
 ·show d.m = ((d.m.toNat : Nat) : Int); omega
 ·show d.r = ((d.r.toNat : Nat) : Int); omega
 ·show d.m.toNat ≤ 15; omega
 ·show d.r.toNat ≤ 4095; omega
 ·show (nats d.d).length = 128; rw [nats_length]; omega

/-- A batch that is not refused. -/
theorem scErr_zero {ep sq : Nat} {ds : List PtD} (h : scErr ep sq ds = 0) (hb : ∀ d ∈ ds, By d.d) : numsOk ep sq ∧ Sc.Good (ds.map pdOf) ∧ ∀ d ∈ ds, PdIs d (pdOf d) := by
 unfold scErr at h
 by_cases h1 : 1 ≤ ds.length ∧ ds.length ≤ 1023
 case neg => rw [if_neg h1] at h; cases h
 rw [if_pos h1] at h
 by_cases h2 : farN ep sq ∨ ds.any farP = true
 case pos => rw [if_pos h2] at h; cases h
 rw [if_neg h2] at h
 by_cases h3 : ds.any shortP = true
 case pos => rw [if_pos h3] at h; cases h
 have P : ∀ d ∈ ds, PdIs d (pdOf d) := fun d hd => pdOf_is (hb d hd) (by
  cases c : farP d with
  | false => rfl
  | true => exact absurd (.inr (List.any_eq_true.2 ⟨d, hd, c⟩)) h2) (by
  cases c : shortP d with
  | false => rfl
  | true => exact absurd (List.any_eq_true.2 ⟨d, hd, c⟩) h3)
 refine ⟨?_, ⟨by simpa using h1.1, by simpa using h1.2, fun p hp => ?_⟩, P⟩
 ·have h4 : ¬ farN ep sq := fun k => h2 (.inl k)
  unfold farN at h4
  unfold numsOk
  omega
 ·obtain ⟨d, hd, rfl⟩ := List.mem_map.1 hp
  exact (P d hd).ok

def SecGives (w : World) (ep sq : Nat) (l : List Pd) (e : Ending) (w' : World) : Prop := ∃ lv vs, e = .returned (.tuple #[lv, .int .u16 0]) ∧ Hid (vs.map (·.2) = (Sc.secs ep sq l).map ub) ∧ Hid (Side w w' (rowsTs lv vs))

theorem info_rowsl : (Tryz.prog.info? 65).map (fun i => (i.zero, i.size, i.bytes)) = some (some (.slice none 0 0), 1, 24) := by kernel_rfl

theorem pair_new2 (w : World) (x y : Value) (t : TypeId) : ∀ j u, [x, y][j]? = some u → (w.alloc (.cells #[x, y] t)).cell? ((⟨w.heap.size, 0, none⟩ : Addr).add j) = some u := by
 intro j u hj
 have := (Blk.made w [x, y] t).cell hj
 rw [Addr.add_lit]
 simpa using this

theorem rows_own {w : World} {lv : Value} {vs : List Rw} {n : Nat} (h : OwnW 1 w 0 65 lv (rwSlots vs)) (hn : vs.length = n) : w.ownsRow 0 65 1 lv n (vs.map (·.1)) := by
 have k := h.2
 rw [rwSlots_flat] at k
 rw [← hn]
 simpa [rwSlots] using k

theorem hdOf_rec_len (ep sq n k : Nat) (p : Pd) : (Sc.hdOf ep sq n k p).rec'.sector.length = 128 ∧ Bs (Sc.hdOf ep sq n k p).rec'.sector := ⟨Rec.sector_length (by show (6 : Nat) ≤ 25; decide), Rec.sector_bs _⟩

theorem hcat_bs (ep sq : Nat) (l : List Pd) (k : Nat) : Bs (Sc.hcat ep sq l k) := fun x hx => by
 obtain ⟨i, _, hi⟩ := List.mem_flatMap.1 hx
 exact (hdOf_rec_len _ _ _ _ _).2 x hi

theorem Side.rebase' {w w1 W : World} {ts : List Thing} (D : Chg [] w w1) (h : Side w1 W ts) : Side w W ts := ⟨h.each, h.apart, fun t ht k hk => Nat.le_trans D.size (h.new t ht k hk), D.trans h.chg⟩

def Cap (v : Value) : Prop := ∀ ao n c, v = .slice ao n c → n ≤ c

theorem owned_capd {w : World} {base : Nat} {e : TypeId} {size : Nat} {v : Value} {m : Nat} {xs : List Value} (h : w.ownsRow base e size v m xs) : Cap v := by
 rintro a n c rfl
 exact owned_cap h

set_option maxHeartbeats 8000000 in
set_option maxRecDepth 100000 in
theorem sectors_ok (ep sq : Nat) (v : Value) (ds : List PtD) (w : World) (h : Pts w v ds) (hb : ∀ d ∈ ds, By d.d ∧ Cap d.v) (h0 : scErr ep sq ds = 0) : Calls Tryz.prog 103 #[.int .u64 (ep : Int), .agg #[.int .u64 (sq : Int), v]] w (SecGives w ep sq (ds.map pdOf)) := by
 obtain ⟨i0, hi, hz0, hz1, hz2⟩ := info_parts info_rowsl
 replace hi := Lib.hid hi
 replace hz0 := Lib.hid hz0
 replace hz1 := Lib.hid hz1
 replace hz2 := Lib.hid hz2
 have CKC : Hid (∀ w', Chg [] w w' → Calls Tryz.prog 158 #[.int .u64 (ep : Int), .agg #[.int .u64 (sq : Int), v]] w' fun e w'' => e = .returned (.int .u16 0) ∧ Hid (Chg [] w' w'')) := fun w' c => by
  have k := check_any ep sq v ds w' (h.chg c)
  rw [h0] at k
  exact k
 obtain ⟨nums, good, is⟩ := scErr_zero h0 (fun d hd => (hb d hd).1)
 obtain ⟨ao, vc, rfl⟩ := h.slice
 have HP : Hid (∀ w', Chg [] w w' → Pts w' (.slice ao ds.length vc) ds) := fun w' c => h.chg c
 have HCAP : Hid (∀ d ∈ ds, Cap d.v) := fun d hd => (hb d hd).2
 obtain ⟨l, hl⟩ : ∃ l, l = ds.map pdOf := ⟨_, rfl⟩
 rw [← hl] at good ⊢
 have hll : l.length = ds.length := by rw [hl]; simp
 have IS : Hid (∀ i d, ds[i]? = some d → ∃ p, l[i]? = some p ∧ PdIs d p) := fun i d hd => ⟨pdOf d, by rw [hl, List.getElem?_map, hd]; rfl, is d (List.mem_of_getElem? hd)⟩
 have HLL := Lib.hid hll
 have GOOD := Lib.hid good
 have NUMS := Lib.hid nums
 have hn1 : ds.length ≤ 1023 := by rw [← hll]; exact good.2.1
 have hn0 : 1 ≤ ds.length := by rw [← hll]; exact good.1
 clear h hb h0 is hl hll good nums
 have W0 : Hid (∀ w', Chg [] (w.alloc (.cells #[.int .u64 (sq : Int), .slice ao ds.length vc] 92)) w' → w'.cell? ⟨w.heap.size, 0, none⟩ = some (.int .u64 (sq : Int)) ∧ w'.cell? ⟨w.heap.size, 1, none⟩ = some (.slice ao ds.length vc) ∧ Chg [] w w') := fun w' c =>
  ⟨((Blk.made w _ _).chg c (by simp)).cell (j := 0) rfl, ((Blk.made w _ _).chg c (by simp)).cell (j := 1) rfl, ((Chg.refl _ _).alloc _).trans c⟩
 obtain ⟨wb, hwb⟩ : ∃ wb, wb = (w.alloc (.cells #[.int .u64 (sq : Int), .slice ao ds.length vc] 92)) := ⟨_, rfl⟩
 rw [← hwb] at W0
 have CB : Hid (Chg [] w wb) := by rw [hwb]; exact (Chg.refl _ _).alloc _
 go_enter Tryz.func103, Tryz.ntmps103
 go_wp2_with fail
 rw [← hwb]
 refine (CKC.out _ CB.out).mono ?_
 rintro e w1 ⟨rfl, C1⟩
 obtain ⟨y0, y1, CW⟩ := W0.out _ C1.out
 have D0 : Hid (Side wb w1 (rowsTs (.slice none 0 0) [])) := by
  have h1 := (Side.nil C1.out).add (b := poolT []) (Chg.refl _ _) (Pool.nil _) (fun k hk => by cases hk)
  exact h1.add (b := wideT 1 65 (.slice none 0 0) []) (Chg.refl _ _) (OwnW.nil _ _ _ _) (fun k hk => by cases hk)
 clear hwb CKC CW
 obtain ⟨N, hN⟩ : ∃ N, N = ds.length := ⟨_, rfl⟩
 rw [← hN] at y1 hn0 hn1 HP HLL W0
 try rw [← hN]
 have HNN := Lib.hid hN
 clear hN
 go_wp2_with fail
 have EC : Hid (∀ W, Calls Tryz.prog 163 #[.agg #[.int .u64 (ep : Int), .int .u64 (sq : Int), .int .i64 (N : Int), .int .u32 (sum (Sc.hcat ep sq l N) : Nat)]] W (PcEncs W (Sc.cmOf ep sq N (Sc.hcat ep sq l N)).rec'.sector 0)) := fun W => by
  have ok : (Sc.cmOf ep sq N (Sc.hcat ep sq l N)).Ok := ⟨NUMS.out, by show (1 : Int) ≤ (N : Int); omega, by show (N : Int) ≤ 1023; omega⟩
  have m := encCm_any (Sc.cmOf ep sq N (Sc.hcat ep sq l N)) W (by show ep < _; have := NUMS.out.1; omega) (by show sq < _; have := NUMS.out.2.2; omega) (sum_lt_of (hcat_bs ep sq l N))
  have e1 : (Sc.cmOf ep sq N (Sc.hcat ep sq l N)).enc = (Sc.cmOf ep sq N (Sc.hcat ep sq l N)).rec'.sector := by unfold Cm.enc; rw [if_pos ok]
  have e2 : (Sc.cmOf ep sq N (Sc.hcat ep sq l N)).err = 0 := by unfold Cm.err; rw [if_pos ok]
  rw [e1, e2] at m
  exact m
 go_loopw [8, 9, 31] (fun a8 a9 i wr => ∃ (k : Nat) (vs : List Rw), k ≤ N ∧ i = .int .i64 k ∧ a9 = .int .u32 (sum (Sc.hcat ep sq l k) : Nat) ∧ Hid (vs.map (·.2) = (Sc.twos (Sc.hsec ep sq l) (fun i => escV (Sc.at' l i).bs) k).map ub) ∧ Hid (Side wb wr (rowsTs a8 vs))) (fun _ _ i _ => N - (intOf i).toNat)
 case atStart => exact ⟨0, [], Nat.zero_le _, rfl, (by rw [show sum (Sc.hcat ep sq l 0) = 0 from more_nil 0]; rfl), rfl, D0⟩
 case round =>
  obtain ⟨k, vs, hk, rfl, rfl, VS, H⟩ := hrel
  clear D0 C1 y0 y1
  obtain ⟨y0, y1, CW⟩ := W0.out _ H.out.chg
  replace CW := Lib.hid CW
  have LV : Hid (vs.length = 2 * k) := by have h := congrArg List.length VS.out; rw [List.length_map, List.length_map, Sc.twos_len] at h; exact h
  have OL8 := Lib.hid (show OwnW 1 wr 0 65 u8 (rwSlots vs) from H.out.get 0 rfl)
  obtain ⟨lo, lc, hlv⟩ := OL8.out.slice
  have hlv2 : u8 = .slice lo (2 * k) lc := by rw [hlv]; simp [rwSlots, LV.out]
  clear hlv
  subst hlv2
  by_cases hlt : k < N
  case neg =>
   obtain rfl : k = N := by omega
   have hge : ¬ (k : Int) < (k : Int) := by omega
   obtain ⟨s0, hs0⟩ : ∃ s0, s0 = sum (Sc.hcat ep sq l k) := ⟨_, rfl⟩
   rw [← hs0] at EC
   rw [← hs0]
   obtain ⟨CS, hCS⟩ : ∃ CS, CS = (Sc.cmOf ep sq k (Sc.hcat ep sq l k)).rec'.sector := ⟨_, rfl⟩
   rw [← hCS] at EC
   have hcl : CS.length = 128 := by rw [hCS]; exact Rec.sector_length (by show (2 : Nat) ≤ 25; decide)
   replace hCS := Lib.hid hCS
   have HCL := Lib.hid hcl
   clear hs0 hcl OL8
   go_wp2_with (first
    | (go_at_call 163; refine (EC.out _).mono ?_; rintro e w6 ⟨cv, rfl, OC, C6⟩; have H6 := Lib.hid (H.out.own OC.out C6.out); have OR : Hid (w6.ownsRow 0 65 1 (.slice lo (2 * k) lc) (2 * k) (vs.map (·.1))) := (rows_own (H6.out.get 1 rfl) LV.out); obtain ⟨co, cc, hcv⟩ := owns_slice OC.out; subst hcv; clear EC)
    | (with_reducible refine wpList_append_three _ rfl (.tmp 79) (.tmp 81) 43 rfl 0 65 i0 (.slice none 0 0) 1 24 Tryz.underlying43 hi.out hz0.out hz1.out hz2.out rfl (by decide) _ (2 * k) _ rfl (OR.out.alloc _) ⟨w6.heap.size, 0, none⟩ 1 1 [.slice co CS.length cc] rfl rfl (new_cell _ _ _) (by simp [Value.oneCell']) (by unfold maxLen; omega) (by omega) (Nat.zero_le _) ?_; intro lv' wn ol gr nb))
   go_ret2
   have CG : Chg (Value.slice lo (2 * k) lc).ownBlock.toList w6 wn := (((Chg.refl [] w6).alloc _).mono (by simp)).grown gr.out (fun j hj => .inl (by have hj2 : (Value.slice lo (2 * k) lc).ownBlock = some j := hj; rw [hj2]; simp))
   have P1 : Side wb w6 (poolT [(.slice co CS.length cc, ub CS)] :: rowsTs (.slice lo (2 * k) lc) vs) := by
    have h1 := H6.out.add (b := poolT []) (Chg.refl _ _) (Pool.nil _) (fun k hk => by cases hk)
    exact (h1.front 1 : Side wb w6 (ownT 5 (.slice co CS.length cc) (ub CS) :: poolT [] :: rowsTs (.slice lo (2 * k) lc) vs)).pool
   have H7 := more_rows P1 CG (by rw [LV.out]; rfl) ol.out (nb_of nb.out (by simp))
   refine ⟨lv', vs ++ [(.slice co CS.length cc, ub CS)], rfl, ?_, Side.rebase' CB.out H7⟩
   show _ = _
   rw [List.map_append, VS.out, Sc.secs, List.map_append, HLL.out, ← hCS.out]
   rfl
  obtain ⟨x, hx⟩ : ∃ x, ds[k]? = some x := ⟨_, List.getElem?_eq_getElem (by rw [← HNN.out]; exact hlt)⟩
  obtain ⟨p, hp, PI⟩ := IS.out k x hx
  obtain ⟨b, o, rfl, hbl, I⟩ := (HP.out _ CW.out).at hx
  have c0 := I.c0
  have c1 := I.c1
  have c2 := I.c2
  have hc := HCAP.out x (List.mem_of_getElem? hx)
  have sl := I.sl
  rw [PI.m] at c0
  rw [PI.r] at c1
  rw [PI.d] at sl
  have hpb : p.bs.length = 128 := PI.ok.2.2.1
  have hbs : Bs p.bs := PI.ok.2.2.2
  obtain ⟨xo, xc, hxv⟩ := sl.slice
  rw [ints_length, hpb] at hxv
  rw [hxv] at c2 sl hc
  have ESC : Hid (∀ W, Chg [] wr W → Calls Tryz.prog 159 #[.slice xo 128 xc] W (EscIs .u16 W p.bs)) := fun W c => escape_any _ p.bs W (sl.chgNil c) hbs (by rw [hpb]; decide) hc
  have AT : Hid (Sc.at' l k = p) := Sc.at'_eq hp
  have gl : (escV p.bs).length = 128 := esc_len hpb
  have gbs : Bs (escV p.bs) := esc_bs hpb hbs
  obtain ⟨g, hg⟩ : ∃ g, g = escV p.bs := ⟨_, rfl⟩
  obtain ⟨es, hes⟩ : ∃ es, es = escB p.bs := ⟨_, rfl⟩
  have hsg : Hid (Sc.hsec ep sq l k = (Sc.hdOf ep sq N k p).rec'.sector) := by show _ = _; unfold Sc.hsec; rw [AT.out, HLL.out]
  have HOK := Sc.hdOf_ok NUMS.out (show N ≤ 1023 by omega) hlt PI.ok
  have HSM : (Sc.hdOf ep sq N k p).sm < 4294967296 := Sc.hdOf_sum PI.ok
  have EH : Hid (∀ W, Calls Tryz.prog 160 #[.agg #[.int .u64 (ep : Int), .int .u64 (sq : Int), .int .i64 (k : Int), .int .i64 (N : Int), .int .i64 (p.m : Int), .int .i64 (p.r : Int), .bool es, .int .u32 (sum g : Nat)]] W (PcEncs W (Sc.hsec ep sq l k) 0)) := fun W => by
   have m := encHd_any (Sc.hdOf ep sq N k p) W (by show ep < _; have := NUMS.out.1; omega) (by show sq < _; have := NUMS.out.2.2; omega) HSM
   have e1 : (Sc.hdOf ep sq N k p).enc = Sc.hsec ep sq l k := by unfold Hd.enc; rw [if_pos HOK, hsg.out]
   have e2 : (Sc.hdOf ep sq N k p).err = 0 := by unfold Hd.err; rw [if_pos HOK]
   rw [e1, e2] at m
   rw [hes, hg]
   exact m
  rw [← hg] at gl gbs
  have EV : Hid (g = escV p.bs) := hg
  have EB : Hid (es = escB p.bs) := hes
  clear I hx hp PI hpb hbs sl hc hxv hg hes HOK HSM
  have hi0 : (0 : Int) ≤ k := Int.natCast_nonneg _
  have hi1 : (k : Int) < N := by omega
  go_wp2_with fail
  refine (ESC.out _ ((Chg.refl _ _).alloc _)).mono ?_
  rintro e w3 ⟨lg, rfl, OG, C3⟩
  have H3 := Lib.hid ((H.out.quiet ((Chg.refl _ _).alloc _)).own OG.out C3.out)
  have OG2 : Hid (w3.ownsRow 0 5 1 lg 128 (ub g)) := by
   have h := OG.out
   unfold RcOwn at h
   rw [← EV.out, gl] at h
   exact ownsRow_base h (Nat.zero_le _)
  obtain ⟨go', gc, hlg⟩ := owns_slice OG2.out
  subst hlg
  have GS : Hid (∀ W, Chg [] w3 W → Sl W (.slice go' 128 gc) (ints g)) := fun W c => (Sl.owned (show w3.ownsRow 0 5 1 (.slice go' 128 gc) 128 ((ints g).map (Value.int .u8)) from OG2.out)).chgNil c
  have KX : Hid (∀ W, Chg [] w3 W → W.cell? ⟨w.heap.size, 0, none⟩ = some (.int .u64 (sq : Int)) ∧ W.cell? ⟨wr.heap.size, 0, none⟩ = some (.int .i64 (p.m : Int)) ∧ W.cell? ⟨wr.heap.size, 1, none⟩ = some (.int .i64 (p.r : Int))) := fun W c =>
   ⟨(W0.out W (H3.out.chg.trans c)).1, (((Blk.made wr [.int .i64 (p.m : Int), .int .i64 (p.r : Int), .slice xo 128 xc] 105).chg C3.out (by simp)).chg c (by simp)).cell (j := 0) rfl, (((Blk.made wr [.int .i64 (p.m : Int), .int .i64 (p.r : Int), .slice xo 128 xc] 105).chg C3.out (by simp)).chg c (by simp)).cell (j := 1) rfl⟩
  have SU : Hid (∀ W, Chg [] w3 W → Calls Tryz.prog 161 #[.slice go' 128 gc] W fun e w' => e = .returned (.int .u32 (sum g : Nat)) ∧ Hid (Chg [] W w')) := fun W c => by
   have m := sum_any _ (ints g) W (GS.out W c) (ints_by gbs) (by rw [ints_length, gl]; decide)
   rw [nats_ints] at m
   exact m
  rw [← EV.out] at H3
  rw [← EB.out]
  clear OG OG2 ESC c0 c1 c2 C3 CW y0 y1 gl
  obtain ⟨er, her⟩ : ∃ er, er = escE p.bs := ⟨_, rfl⟩
  rw [← her]
  clear her
  obtain ⟨sg, hsgd⟩ : ∃ sg, sg = sum g := ⟨_, rfl⟩
  rw [← hsgd] at SU EH
  clear hsgd
  obtain ⟨z0, z1, z2⟩ := KX.out w3 (Chg.refl _ _)
  go_wp2_with fail
  go_region_held3 (fun w' : World => w'.cell? ⟨w.heap.size, 0, none⟩ = some (.int .u64 (sq : Int)) ∧ w'.cell? ⟨wr.heap.size, 0, none⟩ = some (.int .i64 (p.m : Int)) ∧ w'.cell? ⟨wr.heap.size, 1, none⟩ = some (.int .i64 (p.r : Int))) (first | exact ⟨z0, z1, z2⟩ | exact KX.out _ C5.out | exact KX.out _ C4.out) (first
   | (go_at_call 161; refine (SU.out _ (by first | exact Chg.refl _ _ | exact (Chg.refl _ _).drew | exact (Chg.refl _ _).drewN _)).mono ?_; rintro e w4 ⟨rfl, C4'⟩; have C4 : Hid (Chg [] w3 w4) := (by first | exact C4'.out | exact ((Chg.refl [] w3).drew).trans C4'.out | exact ((Chg.refl [] w3).drewN _).trans C4'.out); clear C4')
   | (go_at_call 160; refine (EH.out _).mono ?_; rintro e w5 ⟨hv, rfl, OH, C5'⟩; have C5 : Hid (Chg [] w3 w5) := C4.out.trans C5'.out))
  have H4 := Lib.hid (H3.out.quiet C4.out)
  have H5 := Lib.hid (H4.out.own OH.out C5'.out)
  obtain ⟨hs, hhs⟩ : ∃ hs, hs = Sc.hsec ep sq l k := ⟨_, rfl⟩
  rw [← hhs] at H5 OH
  have HHS := Lib.hid hhs
  have hl8 : hs.length = 128 := by rw [hhs, hsg.out]; exact (hdOf_rec_len _ _ _ _ _).1
  have hb8 : Bs hs := by rw [hhs, hsg.out]; exact (hdOf_rec_len _ _ _ _ _).2
  have OH2 : Hid (w5.ownsRow 0 5 1 hv 128 (ub hs)) := by
   have h := OH.out
   rw [hl8] at h
   exact ownsRow_base h (Nat.zero_le _)
  obtain ⟨ho, hc8, hhv⟩ := owns_slice OH2.out
  subst hhv
  have hsm : sum (Sc.hcat ep sq l k) < 4294967296 := sum_lt_of (hcat_bs ep sq l k)
  have MO : Hid (Calls Tryz.prog 162 #[.int .u32 (sum (Sc.hcat ep sq l k) : Nat), .slice ho 128 hc8] w5 fun e w' => e = .returned (.int .u32 (sum (Sc.hcat ep sq l (k + 1)) : Nat)) ∧ Hid (Chg [] w5 w')) := by
   have m := more_any (sum (Sc.hcat ep sq l k)) _ (ints hs) w5 hsm (Sl.owned (show w5.ownsRow 0 5 1 (.slice ho 128 hc8) 128 ((ints hs).map (Value.int .u8)) from OH2.out)) (ints_by hb8) (by rw [ints_length, hl8]; decide)
   rw [nats_ints] at m
   have e : more (sum (Sc.hcat ep sq l k)) hs = sum (Sc.hcat ep sq l (k + 1)) := by
    rw [Sc.hcat_succ, ← HHS.out]
    unfold sum
    rw [more_more]
   rw [e] at m
   exact m
  clear hhs hsm hb8 hl8 OH OH2 H3 H4 SU KX EH C4 C5 C5' GS z0 z1 z2 gbs OL8
  obtain ⟨s0, hs0⟩ : ∃ s0, s0 = sum (Sc.hcat ep sq l k) := ⟨_, rfl⟩
  rw [← hs0] at MO
  rw [← hs0]
  clear hs0
  obtain ⟨s1, hs1⟩ : ∃ s1, s1 = sum (Sc.hcat ep sq l (k + 1)) := ⟨_, rfl⟩
  rw [← hs1] at MO
  replace hs1 := Lib.hid hs1
  rename_i hHeld
  clear hHeld
  go_wp2_with (first
   | (go_at_call 162; refine MO.out.mono ?_; rintro e w6 ⟨rfl, C6⟩; have H6 := Lib.hid (H5.out.quiet C6.out); have OR : Hid (w6.ownsRow 0 65 1 (.slice lo (2 * k) lc) (2 * k) (vs.map (·.1))) := (rows_own (H6.out.get 2 rfl) LV.out); clear MO H5 C6)
   | (with_reducible refine wpList_append_three _ rfl (.tmp 63) (.tmp 66) 43 rfl 0 65 i0 (.slice none 0 0) 1 24 Tryz.underlying43 hi.out hz0.out hz1.out hz2.out rfl (by decide) _ (2 * k) _ rfl (OR.out.alloc _) ⟨w6.heap.size, 0, none⟩ 2 2 [.slice ho 128 hc8, .slice go' 128 gc] rfl rfl (pair_new2 _ _ _ _) (by simp [Value.oneCell']) (by unfold maxLen; omega) (by omega) (Nat.zero_le _) ?_; intro lv' wn ol gr nb))
  have CG : Hid (Chg (Value.slice lo (2 * k) lc).ownBlock.toList w6 wn) := (((Chg.refl [] w6).alloc _).mono (by simp)).grown gr.out (fun j hj => .inl (by have hj2 : (Value.slice lo (2 * k) lc).ownBlock = some j := hj; rw [hj2]; simp))
  obtain ⟨no, nc, hnv⟩ := owns_slice ol.out
  subst hnv
  have P2 : Side wb w6 (poolT [(.slice ho 128 hc8, ub hs), (.slice go' 128 gc, ub g)] :: rowsTs (.slice lo (2 * k) lc) vs) := by
   have h1 := H6.out.add (b := poolT []) (Chg.refl _ _) (Pool.nil _) (fun k hk => by cases hk)
   have h2 := (h1.front 1 : Side wb w6 (ownT 5 (.slice ho 128 hc8) (ub hs) :: poolT [] :: ownT 5 (.slice go' 128 gc) (ub g) :: rowsTs (.slice lo (2 * k) lc) vs)).pool
   exact (h2.front 1 : Side wb w6 (ownT 5 (.slice go' 128 gc) (ub g) :: poolT [(.slice ho 128 hc8, ub hs)] :: rowsTs (.slice lo (2 * k) lc) vs)).pool
  have H7 : Hid (Side wb wn (rowsTs (.slice no (2 * k + 2) nc) (vs ++ [(.slice ho 128 hc8, ub hs), (.slice go' 128 gc, ub g)]))) := more_rows P2 CG.out (by rw [LV.out]; rfl) ol.out (nb_of nb.out (by simp))
  have VS2 : Hid ((vs ++ [((.slice ho 128 hc8 : Value), ub hs), (.slice go' 128 gc, ub g)]).map (·.2) = (Sc.twos (Sc.hsec ep sq l) (fun i => escV (Sc.at' l i).bs) (k + 1)).map ub) := by
   show _ = _
   rw [List.map_append, VS.out, Sc.twos, List.map_append, HHS.out, AT.out, EV.out]
   rfl
  have e2 : 2 * k + 2 = 2 * (k + 1) := by omega
  rw [e2] at H7
  rw [e2]
  clear ol gr nb CG P2 H6 OR VS H e2
  go_wp2_with fail
  exact ⟨⟨k + 1, _, by omega, by go_num, by rw [hs1.out], VS2, H7⟩, by simp [intOf]; omega⟩

end Go.Proofs.YtkafkdlgflkjgaaGreat

/-
  The program's scan: what a whole batch does to what was found: two regions that draw their order. By an AI agent. Printed by gen_screg.py.
-/
namespace Go.Proofs.YtkafkdlgflkjgaaGreat
open Crc Go.RowKit Go.Shelf

/-- A body's region of a number. -/
def regAt (n : Nat) : Code → Option (Array Oper)
 | .region id ops _ => if id = n then some ops else none
 | .seq a b => (regAt n a).or (regAt n b)
 | .block _ c => regAt n c
 | .loop c => regAt n c
 | .scope c => regAt n c
 | .cond _ a b => (regAt n a).or (regAt n b)
 | .rangeFunc _ _ a b => (regAt n a).or (regAt n b)
 | _ => none

def regOf (f : Func) (n : Nat) : Array Oper := (f.body.bind (regAt n)).getD #[]

/-- An operation that neither defers nor asks a row. -/
def tame (o : Oper) : Bool := match o.op with
 | .defer _ => false
 | _ => true

theorem oper_round {P : Program} {o : Oper} {a : Act} {w : World} {K K' : Act → World → Prop} {R : Act → World → Prop} {Q : Exit → Act → World → Prop} (l n : Nat) (ht : tame o = true) (h : Oper.wp P o a w K (cutQ R)) (hk : ∀ a w, K a w → K' a w) :
 Oper.wpIn (Fence.wide.inRound l) n P o a w K' Q := by
 have hd : ∀ c, o.op ≠ .defer c := fun c e => by unfold tame at ht; rw [e] at ht; cases ht
 unfold Oper.wp at h
 refine ⟨fun f _ => trivial, ?_⟩
 rw [Fence.inRound_round, Oper.semAt_some l _ _ hd]
 generalize (execOp a.eval o).run P w = r at h ⊢
 cases r with
 | ok x w' =>
   cases x with
   | value v => exact hk _ _ h
   | skip => exact hk _ _ h
   | defer d => exact hk _ _ h
   | enter f args =>
     refine ⟨fun k => (by cases k), CallsIn.inRound l (callsIn_wide.2 ?_)⟩
     refine Calls.mono h ?_
     rintro e w'' he
     cases e with
     | returned v => exact hk _ _ he
     | panicked c => exact (he : False).elim
     | outgrown => obtain ⟨a1, w1, q⟩ := he; exact (q : False).elim
   | row r args =>
     refine ⟨fun k => (by cases k), fun c cs _ => ?_⟩
     obtain ⟨v, w2, q, st⟩ := h c cs
     exact ⟨v, w2, hk _ _ q, stepsIn_wide.2 st⟩
   | _ => exact (h : False).elim
 | halt x w' => cases x <;> exact (h : False).elim

theorem any_round {P : Program} {md : Region.Mode} {ops : Array Oper} {R : Act → World → Prop} {Q : Exit → Act → World → Prop} (l n : Nat) (ht : ops.all tame = true) (hQ : ∀ a w, R a w → Q .normal a w) :
 ∀ (fuel : Nat) (listed : Array Bool) (a : Act) (w : World), wpAny P md ops (cutQ R) fuel listed a w → wpAnyIn (Fence.wide.inRound l) n P md ops Q fuel listed a w
 | 0, _, _, _, h => ⟨h.1, hQ _ _ h.2⟩
 | fuel + 1, listed, a, w, h => by
   refine ⟨fun k => hQ _ _ (h.1 k), fun i hi => ?_⟩
   have hs := h.2 i hi
   unfold wpOp at hs
   unfold wpOpIn
   cases ho : ops[i]? with
   | none =>
     simp only [ho] at hs
     exact any_round l n ht hQ fuel _ _ _ hs
   | some o =>
     simp only [ho] at hs
     have tmo : tame o = true := by
      obtain ⟨hi2, e⟩ := Array.getElem?_eq_some_iff.1 ho
      rw [← e]
      exact (Array.all_eq_true.1 ht) i hi2
     by_cases c : Region.wanted o (yielded ops a.tmps) = true
     ·simp only [c, if_true] at hs ⊢
      rcases hs with hs | ⟨_, ⟨a1, w1, q⟩⟩
      ·exact oper_round l n tmo hs fun a w q => any_round l n ht hQ fuel _ _ _ q
      ·exact (q : False).elim
     ·simp only [c, Bool.false_eq_true, if_false] at hs ⊢
      exact ⟨fun f _ => trivial, any_round l n ht hQ fuel _ _ _ hs⟩

/-- What a region leaves, said once for all its orders, in a round too. -/
theorem region_round {P : Program} {ops ops' : Array Oper} {R : Act → World → Prop} {Q : Exit → Act → World → Prop} {id m n l : Nat} {a : Act} {w : World} (hm : P.follows .mixedOrders = true) (h : ops' = ops) (hn : ops'.size = m) (ht : ops'.all tame = true)
 (k : ∃ S, wpAnyH P .any ops' (cutQ R) S m (bitsOf m 0) a w.drew) (hQ : ∀ a w, R a w → Q .normal a w) : (Code.region id ops true).wpIn (Fence.wide.inRound l) n P Q a w := by
 subst h
 subst hn
 obtain ⟨S, k⟩ := k
 refine wpIn_region_any hm ?_
 rw [bitsOf_zero] at k
 exact any_round l n ht hQ _ _ _ _ (wpAny_of_held _ _ _ _ k)


theorem info_txn : (Tryz.prog.info? 92).map (fun i => (i.zero, i.size, i.bytes)) = some (some (.agg #[.int .u64 0, .slice none 0 0]), 2, 32) := by kernel_rfl

theorem two_new (w : World) (x y : Value) (t : TypeId) : ∀ j u, [x, y][j]? = some u → (w.alloc (.cells #[x, y] t)).cell? ((⟨w.heap.size, 0, none⟩ : Addr).add j) = some u := by
 intro j u hj
 have := (Blk.made w [x, y] t).cell hj
 rw [Addr.add_lit]
 simpa using this

/-- What was found, in memory. -/
def fndT (f : Nat) (tv : Value) (nx us : Nat) : Thing := blkT f 120 [tv, .int .u64 (nx : Int), .int .i64 0, .int .i64 (us : Int)]

/-- The box that names the batch that is read. -/
def boxT (B g : Nat) : Thing := blkT B 272 [.pointer (some ⟨g, 0, none⟩)]

def left14 (w0 wb : World) (tvo : Value) (ts : List Thing) (f B g nx us np pc : Nat) (po : Option Addr) (A : List (List Value)) (cs : List Value) (D : List Deferred) (l0 l1 l2 l3 l4 l5 l6 l7 l8 l11 l12 l13 l14 l15 l16 l17 l18 l19 l20 l21 l22 l23 l24 l25 l26 l27 l28 l29 l30 l31 l32 l33 l34 l35 l36 l37 l38 l39 l40 l41 l42 l43 l44 l45 l46 l47 l48 l49 l50 l51 l52 l53 l54 l55 l56 l57 l58 l71 l72 l73 l74 l75 l76 l77 l78 l79 l80 l81 l82 l83 l84 l85 l86 l87 l88 l89 l90 l91 l92 l93 l94 l95 l96 : Value) : Act → World → Prop := fun a' W => ∃ m59 m60 m61 m62 m63 m64 m65 m66 m67 m68 m69 m70 tv, a' = (⟨#[l0, l1, l2, l3, l4, l5, l6, l7, l8, .pointer (some ⟨f, 0, none⟩), .pointer (some ⟨B, 0, none⟩), l11, l12, l13, l14, l15, l16, l17, l18, l19, l20, l21, l22, l23, l24, l25, l26, l27, l28, l29, l30, l31, l32, l33, l34, l35, l36, l37, l38, l39, l40, l41, l42, l43, l44, l45, l46, l47, l48, l49, l50, l51, l52, l53, l54, l55, l56, l57, l58, m59, m60, m61, m62, m63, m64, m65, m66, m67, m68, m69, m70, l71, l72, l73, l74, l75, l76, l77, l78, l79, l80, l81, l82, l83, l84, l85, l86, l87, l88, l89, l90, l91, l92, l93, l94, l95, l96], D⟩ : Act) ∧
 Hid (Side w0 W (fndT f tv nx us :: wideT 2 92 tv (A ++ [[.int .u64 (nx : Int), .slice po np pc]])   :: boxT B g :: blkT g 280 cs :: ts)) ∧ Hid (Chg (f :: tvo.ownBlock.toList) wb W)

set_option maxHeartbeats 1000000 in
set_option maxRecDepth 100000 in
theorem reg14 {w0 w : World} {ts : List Thing} {f B g nx us np nt pc tc : Nat} {ta po : Option Addr} {A : List (List Value)} {cs : List Value} (H : Side w0 w (fndT f (.slice ta nt tc) nx us :: wideT 2 92 (.slice ta nt tc) A :: boxT B g :: blkT g 280 cs :: ts)) (hc : cs[13]? = some (.slice po np pc)) (hn : nt = A.length) (hA : A.length ≤ 100000) (D : List Deferred) (l0 l1 l2 l3 l4 l5 l6 l7 l8 l11 l12 l13 l14 l15 l16 l17 l18 l19 l20 l21 l22 l23 l24 l25 l26 l27 l28 l29 l30 l31 l32 l33 l34 l35 l36 l37 l38 l39 l40 l41 l42 l43 l44 l45 l46 l47 l48 l49 l50 l51 l52 l53 l54 l55 l56 l57 l58 l59 l60 l61 l62 l63 l64 l65 l66 l67 l68 l69 l70 l71 l72 l73 l74 l75 l76 l77 l78 l79 l80 l81 l82 l83 l84 l85 l86 l87 l88 l89 l90 l91 l92 l93 l94 l95 l96 : Value) :
 ∃ S, wpAnyH Tryz.prog .any (regOf Tryz.f117 14) (cutQ (left14 w0 w (.slice ta nt tc) ts f B g nx us np pc po A cs D l0 l1 l2 l3 l4 l5 l6 l7 l8 l11 l12 l13 l14 l15 l16 l17 l18 l19 l20 l21 l22 l23 l24 l25 l26 l27 l28 l29 l30 l31 l32 l33 l34 l35 l36 l37 l38 l39 l40 l41 l42 l43 l44 l45 l46 l47 l48 l49 l50 l51 l52 l53 l54 l55 l56 l57 l58 l71 l72 l73 l74 l75 l76 l77 l78 l79 l80 l81 l82 l83 l84 l85 l86 l87 l88 l89 l90 l91 l92 l93 l94 l95 l96)) S 13 (bitsOf 13 0) (⟨#[l0, l1, l2, l3, l4, l5, l6, l7, l8, .pointer (some ⟨f, 0, none⟩), .pointer (some ⟨B, 0, none⟩), l11, l12, l13, l14, l15, l16, l17, l18, l19, l20, l21, l22, l23, l24, l25, l26, l27, l28, l29, l30, l31, l32, l33, l34, l35, l36, l37, l38, l39, l40, l41, l42, l43, l44, l45, l46, l47, l48, l49, l50, l51, l52, l53, l54, l55, l56, l57, l58, l59, l60, l61, l62, l63, l64, l65, l66, l67, l68, l69, l70, l71, l72, l73, l74, l75, l76, l77, l78, l79, l80, l81, l82, l83, l84, l85, l86, l87, l88, l89, l90, l91, l92, l93, l94, l95, l96], D⟩ : Act) w := by
 obtain ⟨i0, hi, hz0, hz1, hz2⟩ := info_parts info_txn
 obtain ⟨ops, hops⟩ : ∃ ops, ops = (regOf Tryz.f117 14) := ⟨_, rfl⟩
 have NS : Region.noSelect ops = true := by rw [hops]; kernel_rfl
 have bF : Blk w f 120 _ := H.get 0 rfl
 have bB : Blk w B 272 _ := H.get 2 rfl
 have bG : Blk w g 280 cs := H.get 3 rfl
 have oT : OwnW 2 w 0 92 (.slice ta nt tc) A := H.get 1 rfl
 have nF : ∀ k, (Value.slice ta nt tc).ownBlock = some k → k ≠ f ∧ k ≠ B ∧ k ≠ g := fun k hk => by
  have hm : k ∈ (wideT 2 92 (.slice ta nt tc) A).F := by show k ∈ (Value.slice ta nt tc).ownBlock.toList; rw [hk]; simp
  refine ⟨fun e => ?_, fun e => ?_, fun e => ?_⟩
  ·exact H.offAt 1 0 rfl rfl (by decide) k hm (by rw [e]; exact List.mem_singleton.2 rfl)
  ·exact H.offAt 1 2 rfl rfl (by decide) k hm (by rw [e]; exact List.mem_singleton.2 rfl)
  ·exact H.offAt 1 3 rfl rfl (by decide) k hm (by rw [e]; exact List.mem_singleton.2 rfl)
 have nfB : B ≠ f := fun e => H.offAt 2 0 rfl rfl (by decide) B (List.mem_singleton.2 rfl) (by rw [e]; exact List.mem_singleton.2 rfl)
 have nfG : g ≠ f := fun e => H.offAt 3 0 rfl rfl (by decide) g (List.mem_singleton.2 rfl) (by rw [e]; exact List.mem_singleton.2 rfl)
 obtain ⟨S, hS⟩ : ∃ S : World → Prop, S = fun W => W.cell? ⟨f, 1, none⟩ = some (.int .u64 (nx : Int)) ∧ W.cell? ⟨B, 0, none⟩ = some (.pointer (some ⟨g, 0, none⟩)) ∧ W.cell? ⟨g, 13, none⟩ = some (.slice po np pc) := ⟨_, rfl⟩
 refine ⟨S, ?_⟩
 have hb1 := bF.lt
 have hb2 := bB.lt
 have hb3 := bG.lt
 have S0 : ∀ W, Chg (Value.slice ta nt tc).ownBlock.toList w W → S W := fun W c => by
  rw [hS]
  exact ⟨(c.cell (p := ⟨f, 1, none⟩) hb1 (fun hm => (nF f (by simpa using hm)).1 rfl)).trans (bF.cell (j := 1) rfl), (c.cell (p := ⟨B, 0, none⟩) hb2 (fun hm => (nF B (by simpa using hm)).2.1 rfl)).trans (bB.cell (j := 0) rfl), (c.cell (p := ⟨g, 13, none⟩) hb3 (fun hm => (nF g (by simpa using hm)).2.2 rfl)).trans (bG.cell hc)⟩
 have S1 : ∀ W u, S W → S (W.setCell ⟨f, 0, none⟩ u) := fun W u h => by
  rw [hS] at h ⊢
  obtain ⟨h1, h2, h3⟩ := h
  refine ⟨?_, ?_, ?_⟩
  ·rw [World.cell?_setCell_other _ _ _ _ (by simp)]; exact h1
  ·rw [World.cell?_setCell_other _ _ _ _ (fun e => nfB (congrArg Addr.block e).symm)]; exact h2
  ·rw [World.cell?_setCell_other _ _ _ _ (fun e => nfG (congrArg Addr.block e).symm)]; exact h3
 have q1 : ∀ W, S W → W.cell? ⟨f, 1, none⟩ = some (.int .u64 (nx : Int)) := fun W h => by rw [hS] at h; exact h.1
 have q2 : ∀ W, S W → W.cell? ⟨B, 0, none⟩ = some (.pointer (some ⟨g, 0, none⟩)) := fun W h => by rw [hS] at h; exact h.2.1
 have q3 : ∀ W, S W → W.cell? ⟨g, 13, none⟩ = some (.slice po np pc) := fun W h => by rw [hS] at h; exact h.2.2
 clear hS
 have fa0 : ∀ W : World, (Instr.fieldAt 120 (.pointer (some ⟨f, 0, none⟩)) 0).run Tryz.prog W = .ok (.pointer (some ⟨f, 0, none⟩)) W := fun W => by go_simp
 have fa1 : ∀ W : World, (Instr.fieldAt 120 (.pointer (some ⟨f, 0, none⟩)) 1).run Tryz.prog W = .ok (.pointer (some ⟨f, 1, none⟩)) W := fun W => by go_simp
 have fg : ∀ W : World, (Instr.fieldAt 280 (.pointer (some ⟨g, 0, none⟩)) 3).run Tryz.prog W = .ok (.pointer (some ⟨g, 13, none⟩)) W := fun W => by go_simp
 have ld1 : ∀ W, S W → (Instr.loadAt 23 (.pointer (some ⟨f, 1, none⟩))).run Tryz.prog W = .ok (.int .u64 (nx : Int)) W := fun W h => by have h0 := q1 W h; go_simp
 have ldB : ∀ W, S W → (Instr.loadAt 272 (.pointer (some ⟨B, 0, none⟩))).run Tryz.prog W = .ok (.pointer (some ⟨g, 0, none⟩)) W := fun W h => by have h0 := q2 W h; go_simp
 have ldG : ∀ W, S W → (Instr.loadAt 58 (.pointer (some ⟨g, 13, none⟩))).run Tryz.prog W = .ok (.slice po np pc) W := fun W h => by have h0 := q3 W h; go_simp
 have ld0 : ∀ W, W.cell? ⟨f, 0, none⟩ = some (.slice ta nt tc) → (Instr.loadAt 85 (.pointer (some ⟨f, 0, none⟩))).run Tryz.prog W = .ok (.slice ta nt tc) W := fun W h0 => by go_simp
 have bd : ∀ W, (Instr.build 92 #[(0, .int .u64 (nx : Int)), (1, .slice po np pc)]).run Tryz.prog W = .ok (.agg #[.int .u64 (nx : Int), .slice po np pc]) W := fun W => by go_simp
 have bs : ∀ W : World, (Instr.buildSlice 85 1 #[(0, .agg #[.int .u64 (nx : Int), .slice po np pc])]).run Tryz.prog W = .ok (.slice (some ⟨W.heap.size, 0, none⟩) 1 1) (W.alloc (.cells ([.int .u64 (nx : Int), .slice po np pc] : List Value).toArray 92)) := fun W => by go_simp
 have st : ∀ W u n c, W.frozen? ⟨f, 0, none⟩ = false → W.cell? ⟨f, 0, none⟩ = some (.slice ta nt tc) → (Instr.storeAt 85 (.pointer (some ⟨f, 0, none⟩)) (.slice u n c)).run Tryz.prog W = .ok () (W.setCell ⟨f, 0, none⟩ (.slice u n c)) := fun W u n c h0 h1 => by go_simp
 have TZ : ∀ (W : World) (xb : Nat), Chg [] w W → xb = W.heap.size → wpAnyH Tryz.prog .any ops (cutQ (left14 w0 w (.slice ta nt tc) ts f B g nx us np pc po A cs D l0 l1 l2 l3 l4 l5 l6 l7 l8 l11 l12 l13 l14 l15 l16 l17 l18 l19 l20 l21 l22 l23 l24 l25 l26 l27 l28 l29 l30 l31 l32 l33 l34 l35 l36 l37 l38 l39 l40 l41 l42 l43 l44 l45 l46 l47 l48 l49 l50 l51 l52 l53 l54 l55 l56 l57 l58 l71 l72 l73 l74 l75 l76 l77 l78 l79 l80 l81 l82 l83 l84 l85 l86 l87 l88 l89 l90 l91 l92 l93 l94 l95 l96)) S 3 (bitsOf 13 1023) (⟨#[l0, l1, l2, l3, l4, l5, l6, l7, l8, .pointer (some ⟨f, 0, none⟩), .pointer (some ⟨B, 0, none⟩), l11, l12, l13, l14, l15, l16, l17, l18, l19, l20, l21, l22, l23, l24, l25, l26, l27, l28, l29, l30, l31, l32, l33, l34, l35, l36, l37, l38, l39, l40, l41, l42, l43, l44, l45, l46, l47, l48, l49, l50, l51, l52, l53, l54, l55, l56, l57, l58, .pointer (some ⟨f, 0, none⟩), .slice ta nt tc, .pointer (some ⟨f, 1, none⟩), .int .u64 (nx : Int), .pointer (some ⟨g, 0, none⟩), .pointer (some ⟨g, 0, none⟩), .pointer (some ⟨g, 13, none⟩), .slice po np pc, .agg #[.int .u64 (nx : Int), .slice po np pc], .slice (some ⟨xb, 0, none⟩) 1 1, l69, l70, l71, l72, l73, l74, l75, l76, l77, l78, l79, l80, l81, l82, l83, l84, l85, l86, l87, l88, l89, l90, l91, l92, l93, l94, l95, l96], D⟩ : Act) (W.alloc (.cells ([.int .u64 (nx : Int), .slice po np pc] : List Value).toArray 92)) := by
  intro W xb C hx
  subst hx
  have HW := H.quiet C
  have oW : OwnW 2 W 0 92 (.slice ta nt tc) A := HW.get 1 rfl
  have oA : (W.alloc (.cells #[.int .u64 (nx : Int), .slice po np pc] 92)).ownsRow 0 92 2 (.slice ta nt tc) A.length A.flatten := oW.2.alloc _
  refine wpAnyH_ready (rs := [10]) (by rw [hops]; kernel_rfl) (by simp) ?_
  refine readyH_append (i := 10) (d := 69) (s := .tmp 60) (x := .tmp 68) (t := 85) (v := .slice ta nt tc) (y := .slice (some ⟨W.heap.size, 0, none⟩) 1 1)
   (Φ := fun v' w' => w'.ownsRow 0 92 2 v' (A.length + 1) (A.flatten ++ [.int .u64 (nx : Int), .slice po np pc]) ∧ (W.alloc (.cells #[.int .u64 (nx : Int), .slice po np pc] 92)).grownBy w' (Value.slice ta nt tc).ownBlock ∧ (v'.ownBlock = (Value.slice ta nt tc).ownBlock ∨ (v'.ownBlock = some (W.alloc (.cells #[.int .u64 (nx : Int), .slice po np pc] 92)).heap.size ∧ (W.alloc (.cells #[.int .u64 (nx : Int), .slice po np pc] 92)).grownBy w' none)))
   (by rw [hops]; unfold OpIs; kernel_rfl) (by kernel_rfl) (by kernel_rfl) (fun ty => run_append_three _ 0 85 ty 92 i0 (.agg #[.int .u64 0, .slice none 0 0]) 2 32 Tryz.underlying85 hi hz0 hz1 hz2 rfl (by decide) _ A.length A.flatten oA ⟨W.heap.size, 0, none⟩ 1 1 [.int .u64 (nx : Int), .slice po np pc] rfl (two_new _ _ _ _) (by simp [Value.oneCell']) (by unfold maxLen; omega) (by omega) (Nat.zero_le _))
   (l' := bitsOf 13 2047) (by kernel_rfl) ?_ AllReadyH.nil
  rintro v' wn ⟨ol, gr, nb⟩
  obtain ⟨vo, vc, rfl⟩ := owns_slice ol
  have CG : Chg (Value.slice ta nt tc).ownBlock.toList W wn := ((((Chg.refl [] W).alloc _).mono (by simp)).grown gr (fun k hk => .inl (by rw [hk]; simp)))
  have SW : S wn := S0 _ ((C.mono (by simp)).trans CG)
  refine ⟨(⟨#[l0, l1, l2, l3, l4, l5, l6, l7, l8, .pointer (some ⟨f, 0, none⟩), .pointer (some ⟨B, 0, none⟩), l11, l12, l13, l14, l15, l16, l17, l18, l19, l20, l21, l22, l23, l24, l25, l26, l27, l28, l29, l30, l31, l32, l33, l34, l35, l36, l37, l38, l39, l40, l41, l42, l43, l44, l45, l46, l47, l48, l49, l50, l51, l52, l53, l54, l55, l56, l57, l58, .pointer (some ⟨f, 0, none⟩), .slice ta nt tc, .pointer (some ⟨f, 1, none⟩), .int .u64 (nx : Int), .pointer (some ⟨g, 0, none⟩), .pointer (some ⟨g, 0, none⟩), .pointer (some ⟨g, 13, none⟩), .slice po np pc, .agg #[.int .u64 (nx : Int), .slice po np pc], .slice (some ⟨W.heap.size, 0, none⟩) 1 1, .slice vo (A.length + 1) vc, l70, l71, l72, l73, l74, l75, l76, l77, l78, l79, l80, l81, l82, l83, l84, l85, l86, l87, l88, l89, l90, l91, l92, l93, l94, l95, l96], D⟩ : Act), (by kernel_rfl), SW, ?_⟩
  have H2 := more_wide (HW.front 1) rfl CG rfl ol (nb_of nb (by simp))
  have bn : Blk wn f 120 _ := H2.get 1 rfl
  have H3 : Side w0 (wn.setCell ⟨f, 0, none⟩ (.slice vo (A.length + 1) vc)) (wideT 2 92 (.slice vo (A.length + 1) vc) (A ++ [[.int .u64 (nx : Int), .slice po np pc]]) :: fndT f (.slice vo (A.length + 1) vc) nx us :: boxT B g :: blkT g 280 cs :: ts) :=
   H2.turnAt (b := fndT f (.slice vo (A.length + 1) vc) nx us) 1 rfl (s := [f]) ((Chg.refl [f] wn).setCell (p := ⟨f, 0, none⟩) (.inl (by simp)) _) (fun k hk => .inl hk) (bn.set 0 _) (fun k hk => .inl hk)
  refine wpAnyH_ready (rs := [11]) (by rw [hops]; kernel_rfl) (by simp) ?_
  refine readyH_field (i := 11) (d := 70) (t := 120) (x := .tmp 9) (k := 0) (a' := (⟨#[l0, l1, l2, l3, l4, l5, l6, l7, l8, .pointer (some ⟨f, 0, none⟩), .pointer (some ⟨B, 0, none⟩), l11, l12, l13, l14, l15, l16, l17, l18, l19, l20, l21, l22, l23, l24, l25, l26, l27, l28, l29, l30, l31, l32, l33, l34, l35, l36, l37, l38, l39, l40, l41, l42, l43, l44, l45, l46, l47, l48, l49, l50, l51, l52, l53, l54, l55, l56, l57, l58, .pointer (some ⟨f, 0, none⟩), .slice ta nt tc, .pointer (some ⟨f, 1, none⟩), .int .u64 (nx : Int), .pointer (some ⟨g, 0, none⟩), .pointer (some ⟨g, 0, none⟩), .pointer (some ⟨g, 13, none⟩), .slice po np pc, .agg #[.int .u64 (nx : Int), .slice po np pc], .slice (some ⟨W.heap.size, 0, none⟩) 1 1, .slice vo (A.length + 1) vc, .pointer (some ⟨f, 0, none⟩), l71, l72, l73, l74, l75, l76, l77, l78, l79, l80, l81, l82, l83, l84, l85, l86, l87, l88, l89, l90, l91, l92, l93, l94, l95, l96], D⟩ : Act)) (by rw [hops]; unfold OpIs; kernel_rfl) (by kernel_rfl) (fa0 _) (l' := bitsOf 13 4095) (by kernel_rfl) (by kernel_rfl) SW ?_ AllReadyH.nil
  refine wpAnyH_ready (rs := [12]) (by rw [hops]; kernel_rfl) (by simp) ?_
  refine readyH_store1 (i := 12) (t := 85) (x := .tmp 70) (y := .tmp 69) (by rw [hops]; unfold OpIs; kernel_rfl) (by kernel_rfl) (by kernel_rfl) (st wn vo (A.length + 1) vc (bn.free 0) (bn.cell (j := 0) rfl)) (l' := bitsOf 13 8191) (by kernel_rfl) (S1 _ _ SW) ?_ AllReadyH.nil
  refine wpAnyH_done (by rw [hops]; kernel_rfl) ?_ _
  exact ⟨_, _, _, _, _, _, _, _, _, _, _, _, _, rfl, H3.front 1, ((C.mono (by simp)).trans (CG.mono (fun k hk => List.mem_cons_of_mem _ hk))).setCell (.inl (by simp)) _⟩
 have TY : ∀ (W : World), Chg [] w W → wpAnyH Tryz.prog .any ops (cutQ (left14 w0 w (.slice ta nt tc) ts f B g nx us np pc po A cs D l0 l1 l2 l3 l4 l5 l6 l7 l8 l11 l12 l13 l14 l15 l16 l17 l18 l19 l20 l21 l22 l23 l24 l25 l26 l27 l28 l29 l30 l31 l32 l33 l34 l35 l36 l37 l38 l39 l40 l41 l42 l43 l44 l45 l46 l47 l48 l49 l50 l51 l52 l53 l54 l55 l56 l57 l58 l71 l72 l73 l74 l75 l76 l77 l78 l79 l80 l81 l82 l83 l84 l85 l86 l87 l88 l89 l90 l91 l92 l93 l94 l95 l96)) S 5 (bitsOf 13 509) (⟨#[l0, l1, l2, l3, l4, l5, l6, l7, l8, .pointer (some ⟨f, 0, none⟩), .pointer (some ⟨B, 0, none⟩), l11, l12, l13, l14, l15, l16, l17, l18, l19, l20, l21, l22, l23, l24, l25, l26, l27, l28, l29, l30, l31, l32, l33, l34, l35, l36, l37, l38, l39, l40, l41, l42, l43, l44, l45, l46, l47, l48, l49, l50, l51, l52, l53, l54, l55, l56, l57, l58, .pointer (some ⟨f, 0, none⟩), l60, .pointer (some ⟨f, 1, none⟩), .int .u64 (nx : Int), .pointer (some ⟨g, 0, none⟩), .pointer (some ⟨g, 0, none⟩), .pointer (some ⟨g, 13, none⟩), .slice po np pc, .agg #[.int .u64 (nx : Int), .slice po np pc], l68, l69, l70, l71, l72, l73, l74, l75, l76, l77, l78, l79, l80, l81, l82, l83, l84, l85, l86, l87, l88, l89, l90, l91, l92, l93, l94, l95, l96], D⟩ : Act) W := by
  intro W C
  have SW : S W := S0 _ (C.mono (by simp))
  have c0 : W.cell? ⟨f, 0, none⟩ = some (.slice ta nt tc) := (bF.chg C (by simp)).cell (j := 0) rfl
  refine wpAnyH_ready (rs := [1, 9]) (by rw [hops]; kernel_rfl) (by simp) ?_
  refine readyH_load (i := 1) (d := 60) (t := 85) (x := .tmp 59) (a' := (⟨#[l0, l1, l2, l3, l4, l5, l6, l7, l8, .pointer (some ⟨f, 0, none⟩), .pointer (some ⟨B, 0, none⟩), l11, l12, l13, l14, l15, l16, l17, l18, l19, l20, l21, l22, l23, l24, l25, l26, l27, l28, l29, l30, l31, l32, l33, l34, l35, l36, l37, l38, l39, l40, l41, l42, l43, l44, l45, l46, l47, l48, l49, l50, l51, l52, l53, l54, l55, l56, l57, l58, .pointer (some ⟨f, 0, none⟩), .slice ta nt tc, .pointer (some ⟨f, 1, none⟩), .int .u64 (nx : Int), .pointer (some ⟨g, 0, none⟩), .pointer (some ⟨g, 0, none⟩), .pointer (some ⟨g, 13, none⟩), .slice po np pc, .agg #[.int .u64 (nx : Int), .slice po np pc], l68, l69, l70, l71, l72, l73, l74, l75, l76, l77, l78, l79, l80, l81, l82, l83, l84, l85, l86, l87, l88, l89, l90, l91, l92, l93, l94, l95, l96], D⟩ : Act)) (by rw [hops]; unfold OpIs; kernel_rfl) (by kernel_rfl) (ld0 _ c0) (l' := bitsOf 13 511) (by kernel_rfl) (by kernel_rfl) SW ?_ ?_
  ·refine wpAnyH_ready (rs := [9]) (by rw [hops]; kernel_rfl) (by simp) ?_
   refine readyH_literal (i := 9) (d := 68) (t := 85) (n := 1) (parts := #[(0, .tmp 67)]) (a' := (⟨#[l0, l1, l2, l3, l4, l5, l6, l7, l8, .pointer (some ⟨f, 0, none⟩), .pointer (some ⟨B, 0, none⟩), l11, l12, l13, l14, l15, l16, l17, l18, l19, l20, l21, l22, l23, l24, l25, l26, l27, l28, l29, l30, l31, l32, l33, l34, l35, l36, l37, l38, l39, l40, l41, l42, l43, l44, l45, l46, l47, l48, l49, l50, l51, l52, l53, l54, l55, l56, l57, l58, .pointer (some ⟨f, 0, none⟩), .slice ta nt tc, .pointer (some ⟨f, 1, none⟩), .int .u64 (nx : Int), .pointer (some ⟨g, 0, none⟩), .pointer (some ⟨g, 0, none⟩), .pointer (some ⟨g, 13, none⟩), .slice po np pc, .agg #[.int .u64 (nx : Int), .slice po np pc], .slice (some ⟨W.heap.size, 0, none⟩) 1 1, l69, l70, l71, l72, l73, l74, l75, l76, l77, l78, l79, l80, l81, l82, l83, l84, l85, l86, l87, l88, l89, l90, l91, l92, l93, l94, l95, l96], D⟩ : Act)) (by rw [hops]; unfold OpIs; kernel_rfl) (by kernel_rfl) (bs _) (l' := bitsOf 13 1023) (by kernel_rfl) (by kernel_rfl) (S0 _ ((C.alloc _).mono (by simp))) ?_ AllReadyH.nil
   exact TZ W _ C rfl
  ·refine readyH_literal (i := 9) (d := 68) (t := 85) (n := 1) (parts := #[(0, .tmp 67)]) (a' := (⟨#[l0, l1, l2, l3, l4, l5, l6, l7, l8, .pointer (some ⟨f, 0, none⟩), .pointer (some ⟨B, 0, none⟩), l11, l12, l13, l14, l15, l16, l17, l18, l19, l20, l21, l22, l23, l24, l25, l26, l27, l28, l29, l30, l31, l32, l33, l34, l35, l36, l37, l38, l39, l40, l41, l42, l43, l44, l45, l46, l47, l48, l49, l50, l51, l52, l53, l54, l55, l56, l57, l58, .pointer (some ⟨f, 0, none⟩), l60, .pointer (some ⟨f, 1, none⟩), .int .u64 (nx : Int), .pointer (some ⟨g, 0, none⟩), .pointer (some ⟨g, 0, none⟩), .pointer (some ⟨g, 13, none⟩), .slice po np pc, .agg #[.int .u64 (nx : Int), .slice po np pc], .slice (some ⟨W.heap.size, 0, none⟩) 1 1, l69, l70, l71, l72, l73, l74, l75, l76, l77, l78, l79, l80, l81, l82, l83, l84, l85, l86, l87, l88, l89, l90, l91, l92, l93, l94, l95, l96], D⟩ : Act)) (by rw [hops]; unfold OpIs; kernel_rfl) (by kernel_rfl) (bs _) (l' := bitsOf 13 1021) (by kernel_rfl) (by kernel_rfl) (S0 _ ((C.alloc _).mono (by simp))) ?_ AllReadyH.nil
   refine wpAnyH_ready (rs := [1]) (by rw [hops]; kernel_rfl) (by simp) ?_
   refine readyH_load (i := 1) (d := 60) (t := 85) (x := .tmp 59) (a' := (⟨#[l0, l1, l2, l3, l4, l5, l6, l7, l8, .pointer (some ⟨f, 0, none⟩), .pointer (some ⟨B, 0, none⟩), l11, l12, l13, l14, l15, l16, l17, l18, l19, l20, l21, l22, l23, l24, l25, l26, l27, l28, l29, l30, l31, l32, l33, l34, l35, l36, l37, l38, l39, l40, l41, l42, l43, l44, l45, l46, l47, l48, l49, l50, l51, l52, l53, l54, l55, l56, l57, l58, .pointer (some ⟨f, 0, none⟩), .slice ta nt tc, .pointer (some ⟨f, 1, none⟩), .int .u64 (nx : Int), .pointer (some ⟨g, 0, none⟩), .pointer (some ⟨g, 0, none⟩), .pointer (some ⟨g, 13, none⟩), .slice po np pc, .agg #[.int .u64 (nx : Int), .slice po np pc], .slice (some ⟨W.heap.size, 0, none⟩) 1 1, l69, l70, l71, l72, l73, l74, l75, l76, l77, l78, l79, l80, l81, l82, l83, l84, l85, l86, l87, l88, l89, l90, l91, l92, l93, l94, l95, l96], D⟩ : Act)) (by rw [hops]; unfold OpIs; kernel_rfl) (by kernel_rfl) (ld0 _ (((bF.chg C (by simp)).alloc _).cell (j := 0) rfl)) (l' := bitsOf 13 1023) (by kernel_rfl) (by kernel_rfl) (S0 _ ((C.alloc _).mono (by simp))) ?_ AllReadyH.nil
   exact TZ W _ C rfl
 have SW : S w := S0 _ ((Chg.refl [] w).mono (by simp))
 rw [← hops]
 refine wpH_take (i := 0) (d := 59) (a' := (⟨#[l0, l1, l2, l3, l4, l5, l6, l7, l8, .pointer (some ⟨f, 0, none⟩), .pointer (some ⟨B, 0, none⟩), l11, l12, l13, l14, l15, l16, l17, l18, l19, l20, l21, l22, l23, l24, l25, l26, l27, l28, l29, l30, l31, l32, l33, l34, l35, l36, l37, l38, l39, l40, l41, l42, l43, l44, l45, l46, l47, l48, l49, l50, l51, l52, l53, l54, l55, l56, l57, l58, .pointer (some ⟨f, 0, none⟩), l60, l61, l62, l63, l64, l65, l66, l67, l68, l69, l70, l71, l72, l73, l74, l75, l76, l77, l78, l79, l80, l81, l82, l83, l84, l85, l86, l87, l88, l89, l90, l91, l92, l93, l94, l95, l96], D⟩ : Act)) (by rw [hops]; unfold OpIs; kernel_rfl) NS (by rw [hops]; kernel_rfl) (by rw [hops]; kernel_rfl) (runH_field (t := 120) (x := .tmp 9) (k := 0) (by kernel_rfl) fa0) SW (l' := bitsOf 13 1) (by kernel_rfl) (by kernel_rfl) ?_
 refine wpH_take (i := 2) (d := 61) (a' := (⟨#[l0, l1, l2, l3, l4, l5, l6, l7, l8, .pointer (some ⟨f, 0, none⟩), .pointer (some ⟨B, 0, none⟩), l11, l12, l13, l14, l15, l16, l17, l18, l19, l20, l21, l22, l23, l24, l25, l26, l27, l28, l29, l30, l31, l32, l33, l34, l35, l36, l37, l38, l39, l40, l41, l42, l43, l44, l45, l46, l47, l48, l49, l50, l51, l52, l53, l54, l55, l56, l57, l58, .pointer (some ⟨f, 0, none⟩), l60, .pointer (some ⟨f, 1, none⟩), l62, l63, l64, l65, l66, l67, l68, l69, l70, l71, l72, l73, l74, l75, l76, l77, l78, l79, l80, l81, l82, l83, l84, l85, l86, l87, l88, l89, l90, l91, l92, l93, l94, l95, l96], D⟩ : Act)) (by rw [hops]; unfold OpIs; kernel_rfl) NS (by rw [hops]; kernel_rfl) (by rw [hops]; kernel_rfl) (runH_field (t := 120) (x := .tmp 9) (k := 1) (by kernel_rfl) fa1) SW (l' := bitsOf 13 5) (by kernel_rfl) (by kernel_rfl) ?_
 refine wpH_take (i := 3) (d := 62) (a' := (⟨#[l0, l1, l2, l3, l4, l5, l6, l7, l8, .pointer (some ⟨f, 0, none⟩), .pointer (some ⟨B, 0, none⟩), l11, l12, l13, l14, l15, l16, l17, l18, l19, l20, l21, l22, l23, l24, l25, l26, l27, l28, l29, l30, l31, l32, l33, l34, l35, l36, l37, l38, l39, l40, l41, l42, l43, l44, l45, l46, l47, l48, l49, l50, l51, l52, l53, l54, l55, l56, l57, l58, .pointer (some ⟨f, 0, none⟩), l60, .pointer (some ⟨f, 1, none⟩), .int .u64 (nx : Int), l63, l64, l65, l66, l67, l68, l69, l70, l71, l72, l73, l74, l75, l76, l77, l78, l79, l80, l81, l82, l83, l84, l85, l86, l87, l88, l89, l90, l91, l92, l93, l94, l95, l96], D⟩ : Act)) (by rw [hops]; unfold OpIs; kernel_rfl) NS (by rw [hops]; kernel_rfl) (by rw [hops]; kernel_rfl) (runH_load (t := 23) (x := .tmp 61) (by kernel_rfl) ld1) SW (l' := bitsOf 13 13) (by kernel_rfl) (by kernel_rfl) ?_
 refine wpH_take (i := 4) (d := 63) (a' := (⟨#[l0, l1, l2, l3, l4, l5, l6, l7, l8, .pointer (some ⟨f, 0, none⟩), .pointer (some ⟨B, 0, none⟩), l11, l12, l13, l14, l15, l16, l17, l18, l19, l20, l21, l22, l23, l24, l25, l26, l27, l28, l29, l30, l31, l32, l33, l34, l35, l36, l37, l38, l39, l40, l41, l42, l43, l44, l45, l46, l47, l48, l49, l50, l51, l52, l53, l54, l55, l56, l57, l58, .pointer (some ⟨f, 0, none⟩), l60, .pointer (some ⟨f, 1, none⟩), .int .u64 (nx : Int), .pointer (some ⟨g, 0, none⟩), l64, l65, l66, l67, l68, l69, l70, l71, l72, l73, l74, l75, l76, l77, l78, l79, l80, l81, l82, l83, l84, l85, l86, l87, l88, l89, l90, l91, l92, l93, l94, l95, l96], D⟩ : Act)) (by rw [hops]; unfold OpIs; kernel_rfl) NS (by rw [hops]; kernel_rfl) (by rw [hops]; kernel_rfl) (runH_load (t := 272) (x := .tmp 10) (by kernel_rfl) ldB) SW (l' := bitsOf 13 29) (by kernel_rfl) (by kernel_rfl) ?_
 refine wpH_take (i := 5) (d := 64) (a' := (⟨#[l0, l1, l2, l3, l4, l5, l6, l7, l8, .pointer (some ⟨f, 0, none⟩), .pointer (some ⟨B, 0, none⟩), l11, l12, l13, l14, l15, l16, l17, l18, l19, l20, l21, l22, l23, l24, l25, l26, l27, l28, l29, l30, l31, l32, l33, l34, l35, l36, l37, l38, l39, l40, l41, l42, l43, l44, l45, l46, l47, l48, l49, l50, l51, l52, l53, l54, l55, l56, l57, l58, .pointer (some ⟨f, 0, none⟩), l60, .pointer (some ⟨f, 1, none⟩), .int .u64 (nx : Int), .pointer (some ⟨g, 0, none⟩), .pointer (some ⟨g, 0, none⟩), l65, l66, l67, l68, l69, l70, l71, l72, l73, l74, l75, l76, l77, l78, l79, l80, l81, l82, l83, l84, l85, l86, l87, l88, l89, l90, l91, l92, l93, l94, l95, l96], D⟩ : Act)) (by rw [hops]; unfold OpIs; kernel_rfl) NS (by rw [hops]; kernel_rfl) (by rw [hops]; kernel_rfl) (runH_nil (x := .tmp 63) (p := ⟨g, 0, none⟩) (by kernel_rfl)) SW (l' := bitsOf 13 61) (by kernel_rfl) (by kernel_rfl) ?_
 refine wpH_take (i := 6) (d := 65) (a' := (⟨#[l0, l1, l2, l3, l4, l5, l6, l7, l8, .pointer (some ⟨f, 0, none⟩), .pointer (some ⟨B, 0, none⟩), l11, l12, l13, l14, l15, l16, l17, l18, l19, l20, l21, l22, l23, l24, l25, l26, l27, l28, l29, l30, l31, l32, l33, l34, l35, l36, l37, l38, l39, l40, l41, l42, l43, l44, l45, l46, l47, l48, l49, l50, l51, l52, l53, l54, l55, l56, l57, l58, .pointer (some ⟨f, 0, none⟩), l60, .pointer (some ⟨f, 1, none⟩), .int .u64 (nx : Int), .pointer (some ⟨g, 0, none⟩), .pointer (some ⟨g, 0, none⟩), .pointer (some ⟨g, 13, none⟩), l66, l67, l68, l69, l70, l71, l72, l73, l74, l75, l76, l77, l78, l79, l80, l81, l82, l83, l84, l85, l86, l87, l88, l89, l90, l91, l92, l93, l94, l95, l96], D⟩ : Act)) (by rw [hops]; unfold OpIs; kernel_rfl) NS (by rw [hops]; kernel_rfl) (by rw [hops]; kernel_rfl) (runH_field (t := 280) (x := .tmp 64) (k := 3) (by kernel_rfl) fg) SW (l' := bitsOf 13 125) (by kernel_rfl) (by kernel_rfl) ?_
 refine wpH_take (i := 7) (d := 66) (a' := (⟨#[l0, l1, l2, l3, l4, l5, l6, l7, l8, .pointer (some ⟨f, 0, none⟩), .pointer (some ⟨B, 0, none⟩), l11, l12, l13, l14, l15, l16, l17, l18, l19, l20, l21, l22, l23, l24, l25, l26, l27, l28, l29, l30, l31, l32, l33, l34, l35, l36, l37, l38, l39, l40, l41, l42, l43, l44, l45, l46, l47, l48, l49, l50, l51, l52, l53, l54, l55, l56, l57, l58, .pointer (some ⟨f, 0, none⟩), l60, .pointer (some ⟨f, 1, none⟩), .int .u64 (nx : Int), .pointer (some ⟨g, 0, none⟩), .pointer (some ⟨g, 0, none⟩), .pointer (some ⟨g, 13, none⟩), .slice po np pc, l67, l68, l69, l70, l71, l72, l73, l74, l75, l76, l77, l78, l79, l80, l81, l82, l83, l84, l85, l86, l87, l88, l89, l90, l91, l92, l93, l94, l95, l96], D⟩ : Act)) (by rw [hops]; unfold OpIs; kernel_rfl) NS (by rw [hops]; kernel_rfl) (by rw [hops]; kernel_rfl) (runH_load (t := 58) (x := .tmp 65) (by kernel_rfl) ldG) SW (l' := bitsOf 13 253) (by kernel_rfl) (by kernel_rfl) ?_
 refine wpH_take (i := 8) (d := 67) (a' := (⟨#[l0, l1, l2, l3, l4, l5, l6, l7, l8, .pointer (some ⟨f, 0, none⟩), .pointer (some ⟨B, 0, none⟩), l11, l12, l13, l14, l15, l16, l17, l18, l19, l20, l21, l22, l23, l24, l25, l26, l27, l28, l29, l30, l31, l32, l33, l34, l35, l36, l37, l38, l39, l40, l41, l42, l43, l44, l45, l46, l47, l48, l49, l50, l51, l52, l53, l54, l55, l56, l57, l58, .pointer (some ⟨f, 0, none⟩), l60, .pointer (some ⟨f, 1, none⟩), .int .u64 (nx : Int), .pointer (some ⟨g, 0, none⟩), .pointer (some ⟨g, 0, none⟩), .pointer (some ⟨g, 13, none⟩), .slice po np pc, .agg #[.int .u64 (nx : Int), .slice po np pc], l68, l69, l70, l71, l72, l73, l74, l75, l76, l77, l78, l79, l80, l81, l82, l83, l84, l85, l86, l87, l88, l89, l90, l91, l92, l93, l94, l95, l96], D⟩ : Act)) (by rw [hops]; unfold OpIs; kernel_rfl) NS (by rw [hops]; kernel_rfl) (by rw [hops]; kernel_rfl) (runH_build (t := 92) (parts := #[(0, .tmp 62), (1, .tmp 66)]) (by kernel_rfl) bd) SW (l' := bitsOf 13 509) (by kernel_rfl) (by kernel_rfl) ?_
 exact TY w (Chg.refl _ _)

def left15 (w0 wb : World) (ts : List Thing) (f B g nx us : Nat) (tv : Value) (cs : List Value) (D : List Deferred) (l0 l1 l2 l3 l4 l5 l6 l7 l8 l11 l12 l13 l14 l15 l16 l17 l18 l19 l20 l21 l22 l23 l24 l25 l26 l27 l28 l29 l30 l31 l32 l33 l34 l35 l36 l37 l38 l39 l40 l41 l42 l43 l44 l45 l46 l47 l48 l49 l50 l51 l52 l53 l54 l55 l56 l57 l58 l59 l60 l61 l62 l63 l64 l65 l66 l67 l68 l69 l70 l79 l80 l81 l82 l83 l84 l85 l86 l87 l88 l89 l90 l91 l92 l93 l94 l95 l96 : Value) : Act → World → Prop := fun a' W => ∃ m71 m72 m73 m74 m75 m76 m77 m78, a' = (⟨#[l0, l1, l2, l3, l4, l5, l6, l7, l8, .pointer (some ⟨f, 0, none⟩), .pointer (some ⟨B, 0, none⟩), l11, l12, l13, l14, l15, l16, l17, l18, l19, l20, l21, l22, l23, l24, l25, l26, l27, l28, l29, l30, l31, l32, l33, l34, l35, l36, l37, l38, l39, l40, l41, l42, l43, l44, l45, l46, l47, l48, l49, l50, l51, l52, l53, l54, l55, l56, l57, l58, l59, l60, l61, l62, l63, l64, l65, l66, l67, l68, l69, l70, m71, m72, m73, m74, m75, m76, m77, m78, l79, l80, l81, l82, l83, l84, l85, l86, l87, l88, l89, l90, l91, l92, l93, l94, l95, l96], D⟩ : Act) ∧
 Hid (Side w0 W (fndT f tv nx us :: boxT B g :: blkT g 280 cs :: ts)) ∧ Hid (Chg [f] wb W)

set_option maxHeartbeats 1000000 in
set_option maxRecDepth 100000 in
theorem reg15 {w0 w : World} {ts : List Thing} {f B g nx us rd uu : Nat} {tv : Value} {cs : List Value} (H : Side w0 w (fndT f tv nx us :: boxT B g :: blkT g 280 cs :: ts)) (hc : cs[4]? = some (.int .i64 (rd : Int))) (hu : uu = us + rd) (hb : uu ≤ 100000) (D : List Deferred) (l0 l1 l2 l3 l4 l5 l6 l7 l8 l11 l12 l13 l14 l15 l16 l17 l18 l19 l20 l21 l22 l23 l24 l25 l26 l27 l28 l29 l30 l31 l32 l33 l34 l35 l36 l37 l38 l39 l40 l41 l42 l43 l44 l45 l46 l47 l48 l49 l50 l51 l52 l53 l54 l55 l56 l57 l58 l59 l60 l61 l62 l63 l64 l65 l66 l67 l68 l69 l70 l71 l72 l73 l74 l75 l76 l77 l78 l79 l80 l81 l82 l83 l84 l85 l86 l87 l88 l89 l90 l91 l92 l93 l94 l95 l96 : Value) :
 ∃ S, wpAnyH Tryz.prog .any (regOf Tryz.f117 15) (cutQ (left15 w0 w ts f B g nx uu tv cs D l0 l1 l2 l3 l4 l5 l6 l7 l8 l11 l12 l13 l14 l15 l16 l17 l18 l19 l20 l21 l22 l23 l24 l25 l26 l27 l28 l29 l30 l31 l32 l33 l34 l35 l36 l37 l38 l39 l40 l41 l42 l43 l44 l45 l46 l47 l48 l49 l50 l51 l52 l53 l54 l55 l56 l57 l58 l59 l60 l61 l62 l63 l64 l65 l66 l67 l68 l69 l70 l79 l80 l81 l82 l83 l84 l85 l86 l87 l88 l89 l90 l91 l92 l93 l94 l95 l96)) S 9 (bitsOf 9 0) (⟨#[l0, l1, l2, l3, l4, l5, l6, l7, l8, .pointer (some ⟨f, 0, none⟩), .pointer (some ⟨B, 0, none⟩), l11, l12, l13, l14, l15, l16, l17, l18, l19, l20, l21, l22, l23, l24, l25, l26, l27, l28, l29, l30, l31, l32, l33, l34, l35, l36, l37, l38, l39, l40, l41, l42, l43, l44, l45, l46, l47, l48, l49, l50, l51, l52, l53, l54, l55, l56, l57, l58, l59, l60, l61, l62, l63, l64, l65, l66, l67, l68, l69, l70, l71, l72, l73, l74, l75, l76, l77, l78, l79, l80, l81, l82, l83, l84, l85, l86, l87, l88, l89, l90, l91, l92, l93, l94, l95, l96], D⟩ : Act) w := by
 obtain ⟨ops, hops⟩ : ∃ ops, ops = (regOf Tryz.f117 15) := ⟨_, rfl⟩
 have NS : Region.noSelect ops = true := by rw [hops]; kernel_rfl
 have bF : Blk w f 120 _ := H.get 0 rfl
 have bB : Blk w B 272 _ := H.get 1 rfl
 have bG : Blk w g 280 cs := H.get 2 rfl
 have nfB : B ≠ f := fun e => H.offAt 1 0 rfl rfl (by decide) B (List.mem_singleton.2 rfl) (by rw [e]; exact List.mem_singleton.2 rfl)
 have nfG : g ≠ f := fun e => H.offAt 2 0 rfl rfl (by decide) g (List.mem_singleton.2 rfl) (by rw [e]; exact List.mem_singleton.2 rfl)
 obtain ⟨S, hS⟩ : ∃ S : World → Prop, S = fun W => W.cell? ⟨B, 0, none⟩ = some (.pointer (some ⟨g, 0, none⟩)) ∧ W.cell? ⟨g, 4, none⟩ = some (.int .i64 (rd : Int)) := ⟨_, rfl⟩
 refine ⟨S, ?_⟩
 have S1 : ∀ W u, S W → S (W.setCell ⟨f, 3, none⟩ u) := fun W u h => by
  rw [hS] at h ⊢
  obtain ⟨h2, h3⟩ := h
  refine ⟨?_, ?_⟩
  ·rw [World.cell?_setCell_other _ _ _ _ (fun e => nfB (congrArg Addr.block e).symm)]; exact h2
  ·rw [World.cell?_setCell_other _ _ _ _ (fun e => nfG (congrArg Addr.block e).symm)]; exact h3
 have SW : S w := by rw [hS]; exact ⟨bB.cell (j := 0) rfl, bG.cell hc⟩
 have q2 : ∀ W, S W → W.cell? ⟨B, 0, none⟩ = some (.pointer (some ⟨g, 0, none⟩)) := fun W h => by rw [hS] at h; exact h.1
 have q3 : ∀ W, S W → W.cell? ⟨g, 4, none⟩ = some (.int .i64 (rd : Int)) := fun W h => by rw [hS] at h; exact h.2
 clear hS
 have fa3 : ∀ W : World, (Instr.fieldAt 120 (.pointer (some ⟨f, 0, none⟩)) 3).run Tryz.prog W = .ok (.pointer (some ⟨f, 3, none⟩)) W := fun W => by go_simp
 have fg : ∀ W : World, (Instr.fieldAt 280 (.pointer (some ⟨g, 0, none⟩)) 1).run Tryz.prog W = .ok (.pointer (some ⟨g, 4, none⟩)) W := fun W => by go_simp
 have ldB : ∀ W, S W → (Instr.loadAt 272 (.pointer (some ⟨B, 0, none⟩))).run Tryz.prog W = .ok (.pointer (some ⟨g, 0, none⟩)) W := fun W h => by have h0 := q2 W h; go_simp
 have ldG : ∀ W, S W → (Instr.loadAt 3 (.pointer (some ⟨g, 4, none⟩))).run Tryz.prog W = .ok (.int .i64 (rd : Int)) W := fun W h => by have h0 := q3 W h; go_simp
 have ld3 : (Instr.loadAt 3 (.pointer (some ⟨f, 3, none⟩))).run Tryz.prog w = .ok (.int .i64 (us : Int)) w := by have h0 := bF.cell (j := 3) rfl; go_simp
 have hsum : (us : Int) + (rd : Int) = (uu : Int) := by omega
 have hw := (sc_wrap (z := (uu : Int)) (by omega) (by omega)).1
 clear hu hb
 have ad : ∀ W, (do eqGuard .add 3 (.tmp 72) (.tmp 76) (.int .i64 (us : Int)) (.int .i64 (rd : Int)); binOp .add 3 (.int .i64 (us : Int)) (.int .i64 (rd : Int))).run Tryz.prog W = .ok (.int .i64 (uu : Int)) W := fun W => by go_simp
 have st : (Instr.storeAt 3 (.pointer (some ⟨f, 3, none⟩)) (.int .i64 (uu : Int))).run Tryz.prog w = .ok () (w.setCell ⟨f, 3, none⟩ (.int .i64 (uu : Int))) := by have h0 := bF.cell (j := 3) rfl; have h1 := bF.free 3; go_simp
 have H3 : Side w0 (w.setCell ⟨f, 3, none⟩ (.int .i64 (uu : Int))) (fndT f tv nx uu :: boxT B g :: blkT g 280 cs :: ts) :=
  H.turnAt (b := fndT f tv nx uu) 0 rfl (s := [f]) ((Chg.refl [f] w).setCell (p := ⟨f, 3, none⟩) (.inl (by simp)) _) (fun k hk => .inl hk) (bF.set 3 _) (fun k hk => .inl hk)
 rw [← hops]
 refine wpH_take (i := 0) (d := 71) (a' := (⟨#[l0, l1, l2, l3, l4, l5, l6, l7, l8, .pointer (some ⟨f, 0, none⟩), .pointer (some ⟨B, 0, none⟩), l11, l12, l13, l14, l15, l16, l17, l18, l19, l20, l21, l22, l23, l24, l25, l26, l27, l28, l29, l30, l31, l32, l33, l34, l35, l36, l37, l38, l39, l40, l41, l42, l43, l44, l45, l46, l47, l48, l49, l50, l51, l52, l53, l54, l55, l56, l57, l58, l59, l60, l61, l62, l63, l64, l65, l66, l67, l68, l69, l70, .pointer (some ⟨f, 3, none⟩), l72, l73, l74, l75, l76, l77, l78, l79, l80, l81, l82, l83, l84, l85, l86, l87, l88, l89, l90, l91, l92, l93, l94, l95, l96], D⟩ : Act)) (by rw [hops]; unfold OpIs; kernel_rfl) NS (by rw [hops]; kernel_rfl) (by rw [hops]; kernel_rfl) (runH_field (t := 120) (x := .tmp 9) (k := 3) (by kernel_rfl) fa3) SW (l' := bitsOf 9 1) (by kernel_rfl) (by kernel_rfl) ?_
 refine wpH_take (i := 2) (d := 73) (a' := (⟨#[l0, l1, l2, l3, l4, l5, l6, l7, l8, .pointer (some ⟨f, 0, none⟩), .pointer (some ⟨B, 0, none⟩), l11, l12, l13, l14, l15, l16, l17, l18, l19, l20, l21, l22, l23, l24, l25, l26, l27, l28, l29, l30, l31, l32, l33, l34, l35, l36, l37, l38, l39, l40, l41, l42, l43, l44, l45, l46, l47, l48, l49, l50, l51, l52, l53, l54, l55, l56, l57, l58, l59, l60, l61, l62, l63, l64, l65, l66, l67, l68, l69, l70, .pointer (some ⟨f, 3, none⟩), l72, .pointer (some ⟨g, 0, none⟩), l74, l75, l76, l77, l78, l79, l80, l81, l82, l83, l84, l85, l86, l87, l88, l89, l90, l91, l92, l93, l94, l95, l96], D⟩ : Act)) (by rw [hops]; unfold OpIs; kernel_rfl) NS (by rw [hops]; kernel_rfl) (by rw [hops]; kernel_rfl) (runH_load (t := 272) (x := .tmp 10) (by kernel_rfl) ldB) SW (l' := bitsOf 9 5) (by kernel_rfl) (by kernel_rfl) ?_
 refine wpH_take (i := 3) (d := 74) (a' := (⟨#[l0, l1, l2, l3, l4, l5, l6, l7, l8, .pointer (some ⟨f, 0, none⟩), .pointer (some ⟨B, 0, none⟩), l11, l12, l13, l14, l15, l16, l17, l18, l19, l20, l21, l22, l23, l24, l25, l26, l27, l28, l29, l30, l31, l32, l33, l34, l35, l36, l37, l38, l39, l40, l41, l42, l43, l44, l45, l46, l47, l48, l49, l50, l51, l52, l53, l54, l55, l56, l57, l58, l59, l60, l61, l62, l63, l64, l65, l66, l67, l68, l69, l70, .pointer (some ⟨f, 3, none⟩), l72, .pointer (some ⟨g, 0, none⟩), .pointer (some ⟨g, 0, none⟩), l75, l76, l77, l78, l79, l80, l81, l82, l83, l84, l85, l86, l87, l88, l89, l90, l91, l92, l93, l94, l95, l96], D⟩ : Act)) (by rw [hops]; unfold OpIs; kernel_rfl) NS (by rw [hops]; kernel_rfl) (by rw [hops]; kernel_rfl) (runH_nil (x := .tmp 73) (p := ⟨g, 0, none⟩) (by kernel_rfl)) SW (l' := bitsOf 9 13) (by kernel_rfl) (by kernel_rfl) ?_
 refine wpH_take (i := 4) (d := 75) (a' := (⟨#[l0, l1, l2, l3, l4, l5, l6, l7, l8, .pointer (some ⟨f, 0, none⟩), .pointer (some ⟨B, 0, none⟩), l11, l12, l13, l14, l15, l16, l17, l18, l19, l20, l21, l22, l23, l24, l25, l26, l27, l28, l29, l30, l31, l32, l33, l34, l35, l36, l37, l38, l39, l40, l41, l42, l43, l44, l45, l46, l47, l48, l49, l50, l51, l52, l53, l54, l55, l56, l57, l58, l59, l60, l61, l62, l63, l64, l65, l66, l67, l68, l69, l70, .pointer (some ⟨f, 3, none⟩), l72, .pointer (some ⟨g, 0, none⟩), .pointer (some ⟨g, 0, none⟩), .pointer (some ⟨g, 4, none⟩), l76, l77, l78, l79, l80, l81, l82, l83, l84, l85, l86, l87, l88, l89, l90, l91, l92, l93, l94, l95, l96], D⟩ : Act)) (by rw [hops]; unfold OpIs; kernel_rfl) NS (by rw [hops]; kernel_rfl) (by rw [hops]; kernel_rfl) (runH_field (t := 280) (x := .tmp 74) (k := 1) (by kernel_rfl) fg) SW (l' := bitsOf 9 29) (by kernel_rfl) (by kernel_rfl) ?_
 refine wpH_take (i := 5) (d := 76) (a' := (⟨#[l0, l1, l2, l3, l4, l5, l6, l7, l8, .pointer (some ⟨f, 0, none⟩), .pointer (some ⟨B, 0, none⟩), l11, l12, l13, l14, l15, l16, l17, l18, l19, l20, l21, l22, l23, l24, l25, l26, l27, l28, l29, l30, l31, l32, l33, l34, l35, l36, l37, l38, l39, l40, l41, l42, l43, l44, l45, l46, l47, l48, l49, l50, l51, l52, l53, l54, l55, l56, l57, l58, l59, l60, l61, l62, l63, l64, l65, l66, l67, l68, l69, l70, .pointer (some ⟨f, 3, none⟩), l72, .pointer (some ⟨g, 0, none⟩), .pointer (some ⟨g, 0, none⟩), .pointer (some ⟨g, 4, none⟩), .int .i64 (rd : Int), l77, l78, l79, l80, l81, l82, l83, l84, l85, l86, l87, l88, l89, l90, l91, l92, l93, l94, l95, l96], D⟩ : Act)) (by rw [hops]; unfold OpIs; kernel_rfl) NS (by rw [hops]; kernel_rfl) (by rw [hops]; kernel_rfl) (runH_load (t := 3) (x := .tmp 75) (by kernel_rfl) ldG) SW (l' := bitsOf 9 61) (by kernel_rfl) (by kernel_rfl) ?_
 refine wpAnyH_ready (rs := [1]) (by rw [hops]; kernel_rfl) (by simp) ?_
 refine readyH_load (i := 1) (d := 72) (t := 3) (x := .tmp 71) (a' := (⟨#[l0, l1, l2, l3, l4, l5, l6, l7, l8, .pointer (some ⟨f, 0, none⟩), .pointer (some ⟨B, 0, none⟩), l11, l12, l13, l14, l15, l16, l17, l18, l19, l20, l21, l22, l23, l24, l25, l26, l27, l28, l29, l30, l31, l32, l33, l34, l35, l36, l37, l38, l39, l40, l41, l42, l43, l44, l45, l46, l47, l48, l49, l50, l51, l52, l53, l54, l55, l56, l57, l58, l59, l60, l61, l62, l63, l64, l65, l66, l67, l68, l69, l70, .pointer (some ⟨f, 3, none⟩), .int .i64 (us : Int), .pointer (some ⟨g, 0, none⟩), .pointer (some ⟨g, 0, none⟩), .pointer (some ⟨g, 4, none⟩), .int .i64 (rd : Int), l77, l78, l79, l80, l81, l82, l83, l84, l85, l86, l87, l88, l89, l90, l91, l92, l93, l94, l95, l96], D⟩ : Act)) (by rw [hops]; unfold OpIs; kernel_rfl) (by kernel_rfl) ld3 (l' := bitsOf 9 63) (by kernel_rfl) (by kernel_rfl) SW ?_ AllReadyH.nil
 refine wpH_take (i := 6) (d := 77) (a' := (⟨#[l0, l1, l2, l3, l4, l5, l6, l7, l8, .pointer (some ⟨f, 0, none⟩), .pointer (some ⟨B, 0, none⟩), l11, l12, l13, l14, l15, l16, l17, l18, l19, l20, l21, l22, l23, l24, l25, l26, l27, l28, l29, l30, l31, l32, l33, l34, l35, l36, l37, l38, l39, l40, l41, l42, l43, l44, l45, l46, l47, l48, l49, l50, l51, l52, l53, l54, l55, l56, l57, l58, l59, l60, l61, l62, l63, l64, l65, l66, l67, l68, l69, l70, .pointer (some ⟨f, 3, none⟩), .int .i64 (us : Int), .pointer (some ⟨g, 0, none⟩), .pointer (some ⟨g, 0, none⟩), .pointer (some ⟨g, 4, none⟩), .int .i64 (rd : Int), .int .i64 (uu : Int), l78, l79, l80, l81, l82, l83, l84, l85, l86, l87, l88, l89, l90, l91, l92, l93, l94, l95, l96], D⟩ : Act)) (by rw [hops]; unfold OpIs; kernel_rfl) NS (by rw [hops]; kernel_rfl) (by rw [hops]; kernel_rfl) (runH_bin (b := .add) (t := 3) (t2 := 3) (x := .tmp 72) (y := .tmp 76) (by kernel_rfl) (by kernel_rfl) ad) SW (l' := bitsOf 9 127) (by kernel_rfl) (by kernel_rfl) ?_
 refine wpH_take (i := 7) (d := 78) (a' := (⟨#[l0, l1, l2, l3, l4, l5, l6, l7, l8, .pointer (some ⟨f, 0, none⟩), .pointer (some ⟨B, 0, none⟩), l11, l12, l13, l14, l15, l16, l17, l18, l19, l20, l21, l22, l23, l24, l25, l26, l27, l28, l29, l30, l31, l32, l33, l34, l35, l36, l37, l38, l39, l40, l41, l42, l43, l44, l45, l46, l47, l48, l49, l50, l51, l52, l53, l54, l55, l56, l57, l58, l59, l60, l61, l62, l63, l64, l65, l66, l67, l68, l69, l70, .pointer (some ⟨f, 3, none⟩), .int .i64 (us : Int), .pointer (some ⟨g, 0, none⟩), .pointer (some ⟨g, 0, none⟩), .pointer (some ⟨g, 4, none⟩), .int .i64 (rd : Int), .int .i64 (uu : Int), .pointer (some ⟨f, 3, none⟩), l79, l80, l81, l82, l83, l84, l85, l86, l87, l88, l89, l90, l91, l92, l93, l94, l95, l96], D⟩ : Act)) (by rw [hops]; unfold OpIs; kernel_rfl) NS (by rw [hops]; kernel_rfl) (by rw [hops]; kernel_rfl) (runH_field (t := 120) (x := .tmp 9) (k := 3) (by kernel_rfl) fa3) SW (l' := bitsOf 9 255) (by kernel_rfl) (by kernel_rfl) ?_
 refine wpAnyH_ready (rs := [8]) (by rw [hops]; kernel_rfl) (by simp) ?_
 refine readyH_store1 (i := 8) (t := 3) (x := .tmp 78) (y := .tmp 77) (by rw [hops]; unfold OpIs; kernel_rfl) (by kernel_rfl) (by kernel_rfl) st (l' := bitsOf 9 511) (by kernel_rfl) (S1 _ _ SW) ?_ AllReadyH.nil
 refine wpAnyH_done (by rw [hops]; kernel_rfl) ?_ _
 exact ⟨_, _, _, _, _, _, _, _, rfl, H3, (Chg.refl [f] w).setCell (p := ⟨f, 3, none⟩) (.inl (by simp)) _⟩

open Sc (come come_succ come_len)

attribute [local go_sem] Oper.semAt_some

/-- A batch that was found: the slice of its patches; its patches, with their slices. -/
abbrev Tx := Value × List Pv

def txSlots (sq : Nat) (T : List Tx) : List (List Value) := T.mapIdx fun i t => [.int .u64 ((sq + i : Nat) : Int), t.1]
def listsOf (T : List Tx) : Wides := T.map fun t => (t.1, t.2.map pvSlot)
def dataOf (T : List Tx) : List (Value × List Value) := T.flatMap fun t => t.2.map pvRow
def found (T : List Tx) : List (List Pd) := T.map fun t => dOf t.2

theorem txSlots_len (sq : Nat) (T : List Tx) : (txSlots sq T).length = T.length := by simp [txSlots]
theorem txSlots_snoc (sq : Nat) (T : List Tx) (t : Tx) : txSlots sq (T ++ [t]) = txSlots sq T ++ [[.int .u64 ((sq + T.length : Nat) : Int), t.1]] := by simp [txSlots, List.mapIdx_append]
theorem listsOf_snoc (T : List Tx) (t : Tx) : listsOf (T ++ [t]) = listsOf T ++ [(t.1, t.2.map pvSlot)] := by simp [listsOf]
theorem dataOf_snoc (T : List Tx) (t : Tx) : dataOf (T ++ [t]) = dataOf T ++ t.2.map pvRow := by simp [dataOf]
theorem found_snoc (T : List Tx) (t : Tx) : found (T ++ [t]) = found T ++ [dOf t.2] := by simp [found]
theorem found_len (T : List Tx) : (found T).length = T.length := by simp [found]

/-- What lies in memory between two sectors. -/
def scanTs (f B ep sq : Nat) (st : Sc.St) (g : Nat) (pv tv : Value) (A : List Pv) (T : List Tx) (ex : List Thing) : List Thing :=
 batT g ep (sq + T.length) st.b pv :: listT pv A :: dataT A :: fndT f tv (sq + T.length) st.u :: wideT 2 92 tv (txSlots sq T) :: boxT B g :: poolWT 3 105 (listsOf T) :: poolT (dataOf T) :: ex

def Mem (w0 : World) (f B ep sq : Nat) (ex : List Thing) (st : Sc.St) (W : World) : Prop := ∃ g pv tv A T, dOf A = st.b.L ∧ found T = st.L ∧ Side w0 W (scanTs f B ep sq st g pv tv A T ex)

theorem scanTs_solid {f B ep sq : Nat} {st : Sc.St} {g : Nat} {pv tv : Value} {A : List Pv} {T : List Tx} {ex : List Thing} (hex : ∀ t ∈ ex, Solid t) : ∀ t ∈ scanTs f B ep sq st g pv tv A T ex, Solid t := by
 intro t ht
 simp only [scanTs, List.mem_cons] at ht
 rcases ht with rfl | rfl | rfl | rfl | rfl | rfl | rfl | rfl | ht
 ·exact solid_blk _ _ _
 ·exact solid_wide _ _ _ _
 ·exact solid_pool _
 ·exact solid_blk _ _ _
 ·exact solid_wide _ _ _ _
 ·exact solid_blk _ _ _
 ·exact solid_poolW _ _ _
 ·exact solid_pool _
 ·exact hex t ht

theorem Mem.keep {w0 W W' : World} {f B ep sq : Nat} {st : Sc.St} {ex : List Thing} {row : Option Nat} (hex : ∀ t ∈ ex, Solid t) (h : Mem w0 f B ep sq ex st W) (hg : W.grownBy W' row) (hr : ∀ r, row = some r → w0.heap.size ≤ r ∧ ∃ o : Obj, W.heap[r]? = some o ∧ o.isCells = false) : Mem w0 f B ep sq ex st W' := by
 obtain ⟨g, pv, tv, A, T, h1, h2, h3⟩ := h
 exact ⟨g, pv, tv, A, T, h1, h2, h3.keep (scanTs_solid hex) hg hr⟩

/-- What is found, behind a break too: the list, and how many sectors. -/
def Ends (w0 : World) (f sq : Nat) (L : List (List Pd)) (u : Nat) (W : World) : Prop := ∃ tv T, found T = L ∧ Side w0 W [fndT f tv (sq + T.length) u, wideT 2 92 tv (txSlots sq T), poolWT 3 105 (listsOf T), poolT (dataOf T)]

theorem Ends.keep {w0 W W' : World} {f sq u : Nat} {L : List (List Pd)} {row : Option Nat} (h : Ends w0 f sq L u W) (hg : W.grownBy W' row) (hr : ∀ r, row = some r → w0.heap.size ≤ r ∧ ∃ o : Obj, W.heap[r]? = some o ∧ o.isCells = false) : Ends w0 f sq L u W' := by
 obtain ⟨tv, T, h1, h2⟩ := h
 refine ⟨tv, T, h1, h2.keep (fun t ht => ?_) hg hr⟩
 simp only [List.mem_cons, List.not_mem_nil, or_false] at ht
 rcases ht with rfl | rfl | rfl | rfl
 ·exact solid_blk _ _ _
 ·exact solid_wide _ _ _ _
 ·exact solid_poolW _ _ _
 ·exact solid_pool _

theorem ends_sub {w0 W : World} {f B g sq u : Nat} {tv : Value} {T : List Tx} {ex : List Thing} (h : Side w0 W (fndT f tv (sq + T.length) u :: wideT 2 92 tv (txSlots sq T) :: boxT B g :: poolWT 3 105 (listsOf T) :: poolT (dataOf T) :: ex)) : Ends w0 f sq (found T) u W :=
 ⟨tv, T, rfl, h.sub (.cons_cons _ (.cons_cons _ (.cons _ (.cons_cons _ (.cons_cons _ (List.nil_sublist _))))))⟩

theorem Mem.ends {w0 W : World} {f B ep sq : Nat} {ex : List Thing} {st : Sc.St} (h : Mem w0 f B ep sq ex st W) : Ends w0 f sq st.L st.u W := by
 obtain ⟨g, pv, tv, A, T, h1, h2, h3⟩ := h
 rw [← h2]
 exact ends_sub (ex := ex) (h3.tail.tail.tail)

/-- The batch that is read is of no more concern. -/
theorem ends_stop {w0 W w2 : World} {f B ep sq : Nat} {st : Sc.St} {g : Nat} {pv tv : Value} {A : List Pv} {T : List Tx} {ex : List Thing} (h : Side w0 W (scanTs f B ep sq st g pv tv A T ex)) (h2 : found T = st.L) (c : Chg (g :: pv.ownBlock.toList) W w2) : Ends w0 f sq st.L st.u w2 := by
 rw [← h2]
 have h3 : Side w0 w2 (dataT A :: fndT f tv (sq + T.length) st.u :: wideT 2 92 tv (txSlots sq T) :: boxT B g :: poolWT 3 105 (listsOf T) :: poolT (dataOf T) :: ex) :=
  Side.swap (olds := [batT g ep (sq + T.length) st.b pv, listT pv A]) (bs := []) h c (fun k hk => by
   rcases List.mem_cons.1 hk with e | hk
   ·exact .inl ⟨_, List.mem_cons_self, by rw [e]; exact List.mem_singleton.2 rfl⟩
   ·exact .inl ⟨_, List.mem_cons_of_mem _ List.mem_cons_self, hk⟩) (fun b hb => by cases hb) (fun b hb => by cases hb) List.Pairwise.nil
 exact ends_sub (ex := ex) h3.tail

theorem keeps_of {w0 W W' : World} {ts : List Thing} {S : List Nat} (h : Side w0 W ts) (hs : ∀ t ∈ ts, Solid t) (c : Chg S W W') (hS : ∀ k ∈ S, ∃ t ∈ ts, k ∈ t.F) : KeepsOthers W W' := by
 refine ⟨c.size, fun k o hk ho => ?_⟩
 by_cases hm : k ∈ S
 ·obtain ⟨t, ht, hkt⟩ := hS k hm
  obtain ⟨o2, ho2, hc2⟩ := hs t ht W (h.each t ht) k hkt
  rw [hk] at ho2
  obtain rfl := Option.some.inj ho2
  rw [ho] at hc2
  cases hc2
 ·exact (c.block k (Array.getElem?_eq_some_iff.1 hk).1 hm).trans hk

theorem heap_setCell_of {W : World} {D : Nat} {o : Obj} (h : W.heap[D]? = some o) (ho : o.isCells = false) (a : Addr) (u : Value) : (W.setCell a u).heap[D]? = some o := (KeepsOthers.setCell W a u).same D _ h ho

theorem Side.box {w0 W : World} {ts : List Thing} (h : Side w0 W ts) (vs : List Value) (e : TypeId) : Side w0 (W.alloc (.cells vs.toArray e)) (blkT W.heap.size e vs :: ts) :=
 h.add ((Chg.refl _ _).alloc _) (Blk.made W vs e) (fun k hk => by rw [List.mem_singleton.1 hk]; exact Nat.le_refl _)

/-- The two boxes of the iterator. -/
def cycTs (br bf tl : Nat) (rv : Value) : List Thing := [blkT bf 3 [.int .i64 (tl : Int)], blkT br 65 [rv]]

/-- Where the scan begins. -/
theorem scan_start {w1 wd : World} (ep sq tl : Nat) (rv : Value)
 (hd : wd = ((((((w1.alloc (.cells #[.slice none 0 0, .int .u64 (sq : Int), .int .i64 0, .int .i64 0] 120)).alloc (.cells (btc ep sq 0 0 0 Hd.zero (.slice none 0 0)).toArray 280)).alloc (.cells #[.pointer (some ⟨w1.heap.size + 1, 0, none⟩)] 272)).alloc (.cells #[rv] 65)).alloc (.cells #[.int .i64 (tl : Int)] 3)))) :
 Side w1 wd (scanTs w1.heap.size (w1.heap.size + 1 + 1) ep sq Sc.St.new (w1.heap.size + 1) (.slice none 0 0) (.slice none 0 0) [] [] (cycTs (w1.heap.size + 1 + 1 + 1) (w1.heap.size + 1 + 1 + 1 + 1) tl rv)) := by
 subst hd
 have h1 := (((((Side.nil (Chg.refl [] w1)).box [.slice none 0 0, .int .u64 (sq : Int), .int .i64 0, .int .i64 0] 120).box (btc ep sq 0 0 0 Hd.zero (.slice none 0 0)) 280).box [.pointer (some ⟨w1.heap.size + 1, 0, none⟩)] 272).box [rv] 65).box [.int .i64 (tl : Int)] 3
 simp only [World.size_alloc] at h1
 have h2 := h1.add (b := poolT []) (Chg.refl _ _) (Pool.nil _) (fun k hk => by cases hk)
 have h3 := h2.add (b := poolWT 3 105 []) (Chg.refl _ _) (PoolW.nil _ _ _) (fun k hk => by cases hk)
 have h4 := h3.add (b := wideT 2 92 (.slice none 0 0) []) (Chg.refl _ _) (OwnW.nil _ _ _ _) (fun k hk => by cases hk)
 have h5 := h4.add (b := dataT []) (Chg.refl _ _) (Pool.nil _) (fun k hk => by cases hk)
 have h6 := h5.add (b := listT (.slice none 0 0) []) (Chg.refl _ _) (OwnW.nil _ _ _ _) (fun k hk => by cases hk)
 -- list, data, txns, lists, rows, from, ring, box, batch, found
 exact (((((((h6.front 4).front 4).front 7).front 5).front 9).front 6).front 6).front 9

/-- What is written between the two worlds' ends touches none of them. -/
theorem Side.under {w w1 W W' : World} {ts : List Thing} {S : List Nat} (D : Chg [] w w1) (h : Side w1 W ts) (c : Chg S W W') (hS : ∀ k ∈ S, k < w1.heap.size ∧ w.heap.size ≤ k) : Side w W' ts :=
 ⟨fun t ht => t.stays W W' S (h.each t ht) c (fun k hk hm => by have := h.new t ht k hk; have := (hS k hm).1; omega), h.apart, fun t ht k hk => Nat.le_trans D.size (h.new t ht k hk), (D.trans h.chg).fresh c (fun k hk => .inr (hS k hk).2)⟩

theorem sc_blk_kept {X Y : World} {g : Nat} {e : TypeId} {vs : List Value} {row : Option Nat} (h : Blk X g e vs) (hg : X.grownBy Y row) (hr : ∀ r, row = some r → ∃ o : Obj, X.heap[r]? = some o ∧ o.isCells = false) : Blk Y g e vs := by
 refine (hg.block g h.lt fun q => ?_).trans h
 obtain ⟨o, ho, hc⟩ := hr g q.symm
 rw [show X.heap[g]? = _ from h] at ho
 cases ho
 cases hc

theorem size_Fd : (Tryz.prog.info? 120).map (·.size) = some 4 := by kernel_rfl

/-- A sector of the ring, as it reads. -/
theorem sec_sl {w : World} {rb ro cap n LN x : Nat} {bs : List Nat} (h : Sl w (.slice (some ⟨rb, ro, none⟩) LN cap) (ints bs)) (hl : bs.length = LN) (hn : LN = 128 * n) (h0 : 0 < n) (hc : LN ≤ cap) : Sl w (secV rb ro cap n x) (ints (Sc.sec bs x)) := by
 have hx : x % n < n := Nat.mod_lt _ h0
 have hi : (ints bs).length = LN := by rw [ints_length]; exact hl
 rw [← hi] at h
 have k := h.cut (128 * (x % n)) 128 (by omega) (by omega)
 rw [if_neg (by omega)] at k
 have e : (((ints bs).drop (128 * (x % n))).take 128) = ints (Sc.sec bs x) := by
  unfold Sc.sec cut ints
  rw [hl, hn, Nat.mul_div_cancel_left n (by decide), List.map_take, List.map_drop]
 rw [e, Option.map_some, Addr.add_lit] at k
 exact k

theorem reorder9 {w0 w : World} {a b c d e f g h : Thing} {ex : List Thing} (H : Side w0 w (a :: b :: c :: d :: e :: f :: g :: h :: ex)) : Side w0 w (e :: a :: b :: f :: h :: g :: d :: c :: ex) :=
 (((((((H.front 2).front 3).front 6).front 7).front 7).front 6).front 6).front 7

theorem reorder6 {w0 w : World} {a b c d e f : Thing} {ex : List Thing} (H : Side w0 w (a :: b :: c :: d :: e :: f :: ex)) : Side w0 w (d :: e :: f :: a :: b :: c :: ex) :=
 ((H.front 5).front 5).front 5

theorem reorder4 {w0 w : World} {a b c d : Thing} {ex : List Thing} (H : Side w0 w (a :: b :: c :: d :: ex)) : Side w0 w (a :: c :: d :: b :: ex) :=
 ((H.front 3).front 3).front 2

/-- A whole batch is among what was found; a new one begins. -/
theorem mem_next {w0 W : World} {f B ep sq us g g' : Nat} {b : Sc.Bt} {pv tv : Value} {A : List Pv} {T : List Tx} {ex : List Thing}
 (h : Side w0 W (batT g' ep (sq + (T.length + 1)) Sc.Bt.new (.slice none 0 0) :: fndT f tv (sq + (T.length + 1)) us :: boxT B g' :: batT g ep (sq + T.length) b pv :: wideT 2 92 tv (txSlots sq (T ++ [(pv, A)])) :: listT pv A :: dataT A :: poolWT 3 105 (listsOf T) :: poolT (dataOf T) :: ex)) (L : List (List Pd)) :
 Side w0 W (scanTs f B ep sq ⟨L, us, Sc.Bt.new⟩ g' (.slice none 0 0) tv [] (T ++ [(pv, A)]) ex) := by
 have h1 : Side w0 W (batT g' ep (sq + (T.length + 1)) Sc.Bt.new (.slice none 0 0) :: fndT f tv (sq + (T.length + 1)) us :: boxT B g' :: wideT 2 92 tv (txSlots sq (T ++ [(pv, A)])) :: listT pv A :: dataT A :: poolWT 3 105 (listsOf T) :: poolT (dataOf T) :: ex) :=
  h.sub (.cons_cons _ (.cons_cons _ (.cons_cons _ (.cons _ (List.Sublist.refl _)))))
 have h2 := ((h1.front 6).front 5 : Side w0 W (wideT 3 105 pv (A.map pvSlot) :: poolWT 3 105 (listsOf T) :: batT g' ep (sq + (T.length + 1)) Sc.Bt.new (.slice none 0 0) :: fndT f tv (sq + (T.length + 1)) us :: boxT B g' :: wideT 2 92 tv (txSlots sq (T ++ [(pv, A)])) :: dataT A :: poolT (dataOf T) :: ex)).poolW
 have h3 := ((h2.front 6).front 6 : Side w0 W (poolT (A.map pvRow) :: poolT (dataOf T) :: poolWT 3 105 (listsOf T ++ [(pv, A.map pvSlot)]) :: batT g' ep (sq + (T.length + 1)) Sc.Bt.new (.slice none 0 0) :: fndT f tv (sq + (T.length + 1)) us :: boxT B g' :: wideT 2 92 tv (txSlots sq (T ++ [(pv, A)])) :: ex)).poolJoin
 have h4 := h3.add (b := dataT []) (Chg.refl _ _) (Pool.nil _) (fun k hk => by cases hk)
 have h5 := h4.add (b := listT (.slice none 0 0) []) (Chg.refl _ _) (OwnW.nil _ _ _ _) (fun k hk => by cases hk)
 have h6 := reorder9 h5
 unfold scanTs
 rw [listsOf_snoc, dataOf_snoc, List.length_append, List.length_singleton]
 exact h6

/-- A checkpoint that comes in, and a ring, that are as they should be. -/
structure OfOk (n ep sq tl : Nat) (bs : List Nat) : Prop where
 len : bs.length = 128 * n
 lo : 5 ≤ n
 hi : n ≤ 2048
 ok : Ck.Ok ⟨ep, sq, (tl : Int)⟩
 tl : tl < n

def FoundV (tv : Value) (nx hd us : Nat) : Value := .agg #[tv, .int .u64 (nx : Int), .int .i64 (hd : Int), .int .i64 (us : Int)]

def OfGives (w : World) (bs : List Nat) (n ep sq tl : Nat) (e : Ending) (w' : World) : Prop := ∃ tv T u, Sc.Done bs ep tl sq (found T) u ∧ e = .returned (.tuple #[FoundV tv (sq + T.length) ((tl + u) % n) u, .int .u16 0]) ∧ Hid (Side w w' [wideT 2 92 tv (txSlots sq T), poolWT 3 105 (listsOf T), poolT (dataOf T)])

set_option maxHeartbeats 8000000 in
set_option maxRecDepth 100000 in
theorem of_ok {n ep sq tl : Nat} {bs : List Nat} (h : OfOk n ep sq tl bs) (hbs : Bs bs) (rb ro cap : Nat) (w : World) (hcap : 128 * n ≤ cap) (hrb : rb < w.heap.size) (hsl : Sl w (.slice (some ⟨rb, ro, none⟩) (128 * n) cap) (ints bs)) :
 Calls Tryz.prog 117 #[.slice (some ⟨rb, ro, none⟩) (128 * n) cap, .agg #[.int .u64 (ep : Int), .int .u64 (sq : Int), .int .i64 (tl : Int)]] w (OfGives w bs n ep sq tl) := by
 have hmx : Tryz.prog.follows .mixedOrders = true := by kernel_rfl
 have q1 : Int.tdiv (((128 * n : Nat)) : Int) 128 = (n : Int) := by
  have : Int.tdiv (((128 * n : Nat)) : Int) 128 = (((128 * n) / 128 : Nat) : Int) := rfl
  rw [this]; omega
 have q2 : (((128 * n : Nat)) : Int) / 128 = (n : Int) := by omega
 have q3 : Int.tmod (((128 * n : Nat)) : Int) 128 = 0 := by
  have : Int.tmod (((128 * n : Nat)) : Int) 128 = (((128 * n) % 128 : Nat) : Int) := rfl
  rw [this]; omega
 have q4 : (((128 * n : Nat)) : Int) % 128 = 0 := by omega
 obtain ⟨LN, hLN⟩ : ∃ LN, LN = 128 * n := ⟨_, rfl⟩
 have HLN := Lib.hid hLN
 have HH := Lib.hid h
 have SL := Lib.hid hsl
 have t1 : ¬ (n : Int) ≤ (tl : Int) := by have := h.tl; omega
 have wi : Hid (∀ w, Calls Tryz.prog 176 #[.int .i64 (n : Int), .int .i64 5, .int .i64 2048] w fun e w' => e = .returned (.bool true) ∧ w = w') := fun w => by
  have m := scwithin_any (n : Int) 5 2048 w
  rw [decide_eq_true (by have := h.lo; have := h.hi; omega)] at m
  exact m
 have CK : Hid (∀ w, Calls Tryz.prog 50 #[.agg #[.int .u64 (ep : Int), .int .u64 (sq : Int), .int .i64 (tl : Int)]] w fun e w' => (∃ v, e = .returned (.tuple #[v, .int .u16 0])) ∧ Hid (Chg [] w w')) := fun w => by
  refine (encCk_any ⟨ep, sq, (tl : Int)⟩ w (by have := h.ok.1.1; show ep < _; have : ep ≤ 4611686018427387904 := h.ok.1.1; omega) (by have : sq ≤ 4611686018427387904 := h.ok.1.2.2; show sq < _; omega)).mono ?_
  rintro e w' ⟨v, rfl, _, c⟩
  refine ⟨⟨v, ?_⟩, c⟩
  have ok := h.ok
  unfold Ck.err
  rw [if_pos ok]
 have hlo := h.lo
 have hhi := h.hi
 rw [← hLN] at q1 q2 q3 q4 SL hcap ⊢
 clear h hsl hLN
 refine (callsIn_wide (n := 9)).1 ?_
 refine callsIn_of_wp_marks Tryz.func117 rfl trivial ?_ rfl
 simp only [Tryz.ntmps117, List.size_toArray, List.length_cons, List.length_nil, Nat.reduceAdd, Nat.reduceSub, Array.replicate_succ, Array.replicate_zero, List.push_toArray, List.append_toArray, List.nil_append, List.cons_append]
 have BX : Hid (Blk ((w.alloc (.cells #[.int .u64 (ep : Int), .int .u64 (sq : Int), .int .i64 (tl : Int)] 110)).alloc (.cells #[.slice none 0 0, .int .u64 0, .int .i64 0, .int .i64 0] 120)) w.heap.size 110 [.int .u64 (ep : Int), .int .u64 (sq : Int), .int .i64 (tl : Int)]) := (Blk.made w _ _).alloc _
 have BR : Hid (Blk ((w.alloc (.cells #[.int .u64 (ep : Int), .int .u64 (sq : Int), .int .i64 (tl : Int)] 110)).alloc (.cells #[.slice none 0 0, .int .u64 0, .int .i64 0, .int .i64 0] 120)) (w.heap.size + 1) 120 [.slice none 0 0, .int .u64 0, .int .i64 0, .int .i64 0]) := by
  have h := Blk.made (w.alloc (.cells #[.int .u64 (ep : Int), .int .u64 (sq : Int), .int .i64 (tl : Int)] 110)) [.slice none 0 0, .int .u64 0, .int .i64 0, .int .i64 0] 120
  rw [World.size_alloc] at h
  exact h
 have CX : Hid (Chg [] w ((w.alloc (.cells #[.int .u64 (ep : Int), .int .u64 (sq : Int), .int .i64 (tl : Int)] 110)).alloc (.cells #[.slice none 0 0, .int .u64 0, .int .i64 0, .int .i64 0] 120))) := ((Chg.refl _ _).alloc _).alloc _
 gi_wp2
 refine wpIn_wide.2 (wp_scope_straight ((wpIn_wide (n := 9)).1 ?_))
 gi_wp2_with (first
  | (refine ⟨trivial, ?_⟩; gi_at_call 176; refine (callsIn_wide.2 (wi.out _)).mono ?_; rintro e w1 ⟨rfl, rfl⟩)
  | (refine ⟨trivial, ?_⟩; gi_at_call 50; refine (callsIn_wide.2 (CK.out _)).mono ?_; rintro e w1 ⟨⟨vv, rfl⟩, C1⟩; have B1 := Lib.hid (BX.out.chg C1.out (by simp)); have R1 := Lib.hid (BR.out.chg C1.out (by simp)); have D1 := Lib.hid (CX.out.trans C1.out); have x0 := B1.out.cell (j := 0) rfl; have x1 := B1.out.cell (j := 1) rfl; have x2 := B1.out.cell (j := 2) rfl; have hb1 := B1.out.lt; clear C1 BX BR CX)
  | (refine ⟨trivial, ?_⟩; gi_at_call 177; refine (callsIn_wide.2 (begin_any ep sq _)).mono ?_; rintro e w' ⟨rfl, rfl⟩)
  | (refine ⟨trivial, ?_⟩; gi_at_call 178; refine (callsIn_wide.2 (cyclic_any _ _ _ _ _)).mono ?_; rintro e w' ⟨rfl, rfl⟩))
 have SS := scan_start ep sq tl (.slice (some ⟨rb, ro, none⟩) LN cap) (w1 := w1) rfl
 obtain ⟨Wc, hWc⟩ : ∃ Wc, Wc = (((w1.alloc (.cells #[.slice none 0 0, .int .u64 (sq : Int), .int .i64 0, .int .i64 0] 120)).alloc (.cells (btc ep sq 0 0 0 Hd.zero (.slice none 0 0)).toArray 280)).alloc (.cells #[.pointer (some ⟨w1.heap.size + 1, 0, none⟩)] 272)) := ⟨_, rfl⟩
 have y2 : Wc.cell? ⟨w.heap.size, 2, none⟩ = some (.int .i64 (tl : Int)) := by rw [hWc]; exact (((B1.out.alloc _).alloc _).alloc _).cell (j := 2) rfl
 have hsc : Wc.heap.size = w1.heap.size + 1 + 1 + 1 := by rw [hWc]; simp
 rw [← hWc] at SS ⊢
 replace SS := Lib.hid SS
 clear x0 x1 x2 hWc
 refine wpIn_wide.2 (wp_label ?_)
 gi_wp2_with (first
  | (refine ⟨trivial, ?_⟩; gi_at_call 178; refine (callsIn_wide.2 (cyclic_any _ _ _ _ _)).mono ?_; rintro e w' ⟨rfl, rfl⟩))
 obtain ⟨W0, hW0⟩ : ∃ W0, W0 = (Wc.alloc (.cells #[.slice (some ⟨rb, ro, none⟩) LN cap] 65)).alloc (.cells #[.int .i64 (tl : Int)] 3) := ⟨_, rfl⟩
 have hsz : W0.heap.size = w1.heap.size + 5 := by rw [hW0]; simp [hsc]
 rw [← hW0] at SS
 obtain ⟨N, hN⟩ : ∃ N, N = w1.heap.size := ⟨_, rfl⟩
 rw [← hW0]
 rw [← hN] at hsc hsz SS
 rw [← hN]
 have HNE := Lib.hid hN
 clear hW0 y2 hN
 have kr := (SS.out.get 9 rfl : Blk W0 (N + 1 + 1 + 1) 65 _).cell (j := 0) rfl
 have kf := (SS.out.get 8 rfl : Blk W0 (N + 1 + 1 + 1 + 1) 3 _).cell (j := 0) rfl
 have SLS : Hid (∀ x w', Chg [] w1 w' → Sl w' (secV rb ro cap n x) (ints (Sc.sec bs x))) := fun x w' c => sec_sl (SL.out.chgNil (D1.out.trans c)) (by rw [HH.out.len]; exact HLN.out.symm) HLN.out (by omega) hcap
 have hsx : ∀ x, (Sc.sec bs x).length = 128 := fun x => Sc.sec_len (by rw [HH.out.len]; omega) x
 have hex : Hid (∀ t ∈ cycTs (N + 1 + 1 + 1) (N + 1 + 1 + 1 + 1) tl (.slice (some ⟨rb, ro, none⟩) LN cap), Solid t) := fun t ht => by
  simp only [cycTs, List.mem_cons, List.not_mem_nil, or_false] at ht
  rcases ht with rfl | rfl
  ·exact solid_blk _ _ _
  ·exact solid_blk _ _ _
 have hcb : 128 * n ≤ cap := by rw [← HLN.out]; exact hcap
 rw [HLN.out] at kr
 refine wpIn_rangeFunc_ownH rfl (by decide) (gf := 237) (lb := #[.pointer (some ⟨N + 1 + 1 + 1, 0, none⟩), .pointer (some ⟨N + 1 + 1 + 1 + 1, 0, none⟩)]) rfl trivial (enters_of Tryz.func237 (by kernel_rfl) rfl)
  (cyc_stops n tl rb ro cap (N + 1 + 1 + 1) (N + 1 + 1 + 1 + 1) (by omega) hhi HH.out.tl hcb 8 W0 kr kf (by omega) (by omega))
  (fun h1 h2 => ⟨h2.1.trans h1.1, h2.2.trans h1.2⟩) (fun W l o o' hl ho _ _ => by
   have hc : Chg [l] W (W.putObj l o') := (chg_of_grown (grownBy_putObj' W l o'))
   have hlt := (Array.getElem?_eq_some_iff.1 ho).1
   exact ⟨hc.cell (p := ⟨N + 1 + 1 + 1, 0, none⟩) (by show N + 1 + 1 + 1 < _; omega) (by show N + 1 + 1 + 1 ∉ [l]; simp; omega), hc.cell (p := ⟨N + 1 + 1 + 1 + 1, 0, none⟩) (by show N + 1 + 1 + 1 + 1 < _; omega) (by show N + 1 + 1 + 1 + 1 ∉ [l]; simp; omega)⟩) (Below.refl _ _) (fun _ => rfl)
  (fun pre W => ∃ st, Sc.run ep sq bs pre = some st ∧ Mem w1 N (N + 1 + 1) ep sq (cycTs (N + 1 + 1 + 1) (N + 1 + 1 + 1 + 1) tl (.slice (some ⟨rb, ro, none⟩) LN cap)) st W)
  (fun c pre W => c = .exit 0 ∧ ∃ st pre0 x, pre = pre0 ++ [x] ∧ Sc.run ep sq bs pre0 = some st ∧ st.next ep sq (Sc.sec bs x) = none ∧ Ends w1 N sq st.L st.u W)
  (fun pre X Y row hs hg hr => by obtain ⟨st, e1, e2⟩ := hs; exact ⟨st, e1, e2.keep hex.out hg (fun r q => ⟨by have := (hr r q).1; have := HNE.out; omega, (hr r q).2⟩)⟩)
  (fun c pre X Y row hs hg hr => by obtain ⟨e0, st, p0, x, e1, e2, e3, e4⟩ := hs; exact ⟨e0, st, p0, x, e1, e2, e3, e4.keep hg (fun r q => ⟨by have := (hr r q).1; have := HNE.out; omega, (hr r q).2⟩)⟩)
  ⟨Sc.St.new, rfl, N + 1, .slice none 0 0, .slice none 0 0, [], [], rfl, rfl, SS.out⟩
  (fun x a' W => a' = ({ tmps := #[.slice (some ⟨rb, ro, none⟩) LN cap, .agg #[.int .u64 (ep : Int), .int .u64 (sq : Int), .int .i64 (tl : Int)], undef, .pointer (some ⟨w.heap.size, 0, none⟩), .pointer (some ⟨w.heap.size + 1, 0, none⟩), .int .u16 0, .int .i64 (n : Int), vv, .int .u16 0, .pointer (some ⟨N, 0, none⟩), .pointer (some ⟨N + 1 + 1, 0, none⟩), secV rb ro cap n x, .slice (some ⟨rb, ro, none⟩) LN cap, .int .i64 (LN : Int), .int .i64 (n : Int), .slice (some ⟨rb, ro, none⟩) LN cap, .int .i64 (LN : Int), .int .i64 0, .bool false, .bool false, .int .i64 (n : Int), .bool true, .bool false, .bool false, undef, .tuple #[vv, .int .u16 0], .agg #[.int .u64 (ep : Int), .int .u64 (sq : Int), .int .i64 (tl : Int)], .tuple #[vv, .int .u16 0], vv, .int .u16 0, .int .u16 0, .bool false, .bool false, .pointer (some ⟨w.heap.size, 2, none⟩), .int .i64 (tl : Int), .int .i64 (n : Int), .bool false, .bool false, undef, .pointer (some ⟨w.heap.size, 1, none⟩), .int .u64 (sq : Int), .agg #[.slice none 0 0, .int .u64 (sq : Int), .int .i64 0, .int .i64 0], .pointer (some ⟨w.heap.size, 0, none⟩), .int .u64 (ep : Int), .pointer (some ⟨N, 1, none⟩), .int .u64 (sq : Int), .pointer (some ⟨N + 1, 0, none⟩), .slice (some ⟨rb, ro, none⟩) LN cap, .pointer (some ⟨w.heap.size, 2, none⟩), .int .i64 (tl : Int), .func (.func 237) #[] #[.pointer (some ⟨N + 1 + 1 + 1, 0, none⟩), .pointer (some ⟨N + 1 + 1 + 1 + 1, 0, none⟩)], secV rb ro cap n x, undef, undef, undef, undef, undef, undef, undef, undef, undef, undef, undef, undef, undef, undef, undef, undef, undef, undef, undef, undef, undef, undef, undef, undef, undef, undef, undef, undef, undef, undef, undef, undef, undef, undef, undef, undef, undef, undef, undef, undef, undef, undef, undef, undef, undef], defers := [] } : Act))
  (fun x a' _ X Y row hs hg hr => hs)
  ?assign ?body ?done ?stop
 case assign =>
  rintro l pre x W K hI hK
  gi_wp2
  exact hK _ _ (KeepsFrom.refl _ _) ⟨rfl, rfl⟩ hI rfl
 case body =>
  rintro l pre x a' W hl _ ⟨st, hrun, g, pv, tv, A, T, h1, h2, H⟩ rfl hlen
  have SD := Sc.run_snd hbs pre.length pre rfl st hrun
  have kB := (H.get 5 rfl : Blk W (N + 1 + 1) 272 _).cell (j := 0) rfl
  have hlA : A.length = st.b.L.length := by rw [← h1]; simp [dOf]
  have hlT : T.length = st.L.length := by rw [← h2, found_len]
  have sd1 := SD.rd
  have sd2 := SD.len
  have sd3 := SD.Ls
  have TK := Lib.hid (took_any w1 W _ g ep (sq + T.length) st.b pv (secV rb ro cap n x) A (Sc.sec bs x) (by omega) h1 SD.sm SD.ct0 SD.ct1 (by omega) (fun _ => ⟨SD.mb, SD.rw'⟩) H (SLS.out x) (fun k hk => by
   have : rb = k := by simpa [secV, Value.ownBlock] using hk
   have := D1.out.size
   omega) (Sc.sec_bs hbs x) (by rw [hsx]; decide) (fun ao m c e => by
   have hq : x % n < n := Nat.mod_lt _ (by omega)
   simp only [secV, Value.slice.injEq] at e
   omega))
  have KF : Hid (∀ w2, Chg (g :: pv.ownBlock.toList) W w2 → KeepsOthers W w2) := fun w2 c => keeps_of H (scanTs_solid hex.out) c (fun k hk => by
   rcases List.mem_cons.1 hk with e | hk
   ·exact ⟨_, List.mem_cons_self, by rw [e]; exact List.mem_singleton.2 rfl⟩
   ·exact ⟨_, List.mem_cons_of_mem _ List.mem_cons_self, hk⟩)
  have HM := Lib.hid H
  have HLT := Lib.hid hlT
  have HRUN := Lib.hid hrun
  have HF := Lib.hid h2
  have NX : Hid (∀ r, st.next ep sq (Sc.sec bs x) = r → Sc.run ep sq bs (pre ++ [x]) = r) := fun r e => by rw [Sc.run_snoc, hrun]; exact e
  clear hrun h1 h2 H hlT hlA
  gi_wp2
  refine ⟨trivial, ?_⟩
  refine (CallsIn.inRound l (callsIn_wide.2 TK.out)).mono ?_
  clear TK kB
  rintro e w2 ⟨CW, (⟨kn, rfl, kc⟩ | ⟨t, b', kn, rfl, pv', A', kd, K2⟩)⟩
  ·have KN : Hid (st.next ep sq (Sc.sec bs x) = none) := by show _ = _; unfold Sc.St.next; rw [← HLT.out, kn]; rfl
   clear kn kc
   gi_wp2
   exact ⟨(KF.out _ CW.out).from _, rfl, st, pre, x, rfl, HRUN.out, KN.out, ends_stop HM.out HF.out CW.out⟩
  have KN : Hid (st.next ep sq (Sc.sec bs x) = some (if t = true then ⟨st.L ++ [b'.L], st.u + b'.rd, Sc.Bt.new⟩ else ⟨st.L, st.u, b'⟩)) := by show _ = _; unfold Sc.St.next; rw [← HLT.out, kn]; rfl
  have KD := Lib.hid kd
  clear kn kd
  cases t
  ·have K3 : Hid (Mem w1 N (N + 1 + 1) ep sq (cycTs (N + 1 + 1 + 1) (N + 1 + 1 + 1 + 1) tl (.slice (some ⟨rb, ro, none⟩) LN cap)) ⟨st.L, st.u, b'⟩ w2) := ⟨g, pv', tv, A', T, KD.out, HF.out, K2.out⟩
   have KP : Hid (Keep2 (N + 1 + 1 + 1) (N + 1 + 1 + 1 + 1) W w2) := ⟨((K2.out.get 9 rfl : Blk w2 (N + 1 + 1 + 1) 65 _).cell (j := 0) rfl).trans ((HM.out.get 9 rfl : Blk W (N + 1 + 1 + 1) 65 _).cell (j := 0) rfl).symm, ((K2.out.get 8 rfl : Blk w2 (N + 1 + 1 + 1 + 1) 3 _).cell (j := 0) rfl).trans ((HM.out.get 8 rfl : Blk W (N + 1 + 1 + 1 + 1) 3 _).cell (j := 0) rfl).symm⟩
   gi_wp2
   exact ⟨(KF.out _ CW.out).from _, KP.out, _, NX.out _ KN.out, K3.out⟩
  ·have SD2 := Lib.hid (SD.next (Sc.sec_bs hbs x) KN.out)
   have OW := Lib.hid (show OwnW 3 w2 0 105 pv' (A'.map pvSlot) from K2.out.get 1 rfl)
   obtain ⟨po, pc, hpv⟩ := OW.out.slice
   rw [List.length_map] at hpv
   subst hpv
   have OT := Lib.hid (show OwnW 2 w2 0 92 tv (txSlots sq T) from K2.out.get 4 rfl)
   obtain ⟨ta, tc, htv⟩ := OT.out.slice
   subst htv
   have sz1 : (txSlots sq T).length ≤ 100000 := by rw [txSlots_len, HLT.out]; omega
   have sd4 := SD2.out.rd
   have RD : Hid (st.u + b'.rd ≤ pre.length + 1) := (show st.u + b'.rd + 0 ≤ pre.length + 1 from sd4)
   have H14 := Lib.hid (reorder6 (a := batT g ep (sq + T.length) b' (.slice po A'.length pc)) (b := listT (.slice po A'.length pc) A') (c := dataT A') K2.out)
   clear sd4 OW OT
   gi_wp2
   refine region_round (by kernel_rfl) (ops' := regOf Tryz.f117 14) (by kernel_rfl) (by kernel_rfl) (by kernel_rfl) (reg14 (np := A'.length) (po := po) (pc := pc) (cs := btc ep (sq + T.length) b'.ct b'.sm b'.rd b'.hd (.slice po A'.length pc)) (H14.out.quiet ((Chg.refl _ _).drew)) rfl rfl sz1 [] _ _ _ _ _ _ _ _ _ _ _ _ _ _ _ _ _ _ _ _ _ _ _ _ _ _ _ _ _ _ _ _ _ _ _ _ _ _ _ _ _ _ _ _ _ _ _ _ _ _ _ _ _ _ _ _ _ _ _ _ _ _ _ _ _ _ _ _ _ _ _ _ _ _ _ _ _ _ _ _ _ _ _ _ _ _ _ _ _ _ _ _ _ _ _) ?_
   rintro a w3 ⟨m59, m60, m61, m62, m63, m64, m65, m66, m67, m68, m69, m70, tv3, rfl, H3, C3⟩
   have KA : Hid (KeepsOthers w2 w3) := (KeepsOthers.drew w2).trans (keeps_of (H14.out.quiet ((Chg.refl _ _).drew)) (fun t ht => by
    simp only [List.mem_cons] at ht
    rcases ht with rfl | rfl | rfl | rfl | rfl | rfl | rfl | rfl | ht
    ·exact solid_blk _ _ _
    ·exact solid_wide _ _ _ _
    ·exact solid_blk _ _ _
    ·exact solid_blk _ _ _
    ·exact solid_wide _ _ _ _
    ·exact solid_pool _
    ·exact solid_poolW _ _ _
    ·exact solid_pool _
    ·exact hex.out t ht) C3.out (fun k hk => by
    rcases List.mem_cons.1 hk with e | hk
    ·exact ⟨_, List.mem_cons_self, by rw [e]; exact List.mem_singleton.2 rfl⟩
    ·exact ⟨_, List.mem_cons_of_mem _ List.mem_cons_self, hk⟩))
   have H4 := Lib.hid (reorder4 H3.out)
   clear C3 H3 H14
   gi_wp2
   refine region_round (by kernel_rfl) (ops' := regOf Tryz.f117 15) (by kernel_rfl) (by kernel_rfl) (by kernel_rfl) (reg15 (rd := b'.rd) (uu := st.u + b'.rd) (cs := btc ep (sq + T.length) b'.ct b'.sm b'.rd b'.hd (.slice po A'.length pc)) (H4.out.quiet ((Chg.refl _ _).drew)) rfl rfl (by have := RD.out; omega) [] _ _ _ _ _ _ _ _ _ _ _ _ _ _ _ _ _ _ _ _ _ _ _ _ _ _ _ _ _ _ _ _ _ _ _ _ _ _ _ _ _ _ _ _ _ _ _ _ _ _ _ _ _ _ _ _ _ _ _ _ _ _ _ _ _ _ _ _ _ _ _ _ _ _ _ _ _ _ _ _ _ _ _ _ _ _ _ _ _ _ _ _ _ _ _) ?_
   rintro a w4 ⟨m71, m72, m73, m74, m75, m76, m77, m78, rfl, H5, C5⟩
   have hex4 : Hid (∀ t ∈ (fndT N tv3 (sq + T.length) st.u :: boxT (N + 1 + 1) g :: blkT g 280 (btc ep (sq + T.length) b'.ct b'.sm b'.rd b'.hd (.slice po A'.length pc)) :: wideT 2 92 tv3 (txSlots sq T ++ [[.int .u64 ((sq + T.length : Nat) : Int), .slice po A'.length pc]]) :: listT (.slice po A'.length pc) A' :: dataT A' :: poolWT 3 105 (listsOf T) :: poolT (dataOf T) :: cycTs (N + 1 + 1 + 1) (N + 1 + 1 + 1 + 1) tl (.slice (some ⟨rb, ro, none⟩) LN cap)), Solid t) := fun t ht => by
    simp only [List.mem_cons] at ht
    rcases ht with rfl | rfl | rfl | rfl | rfl | rfl | rfl | rfl | ht
    ·exact solid_blk _ _ _
    ·exact solid_blk _ _ _
    ·exact solid_blk _ _ _
    ·exact solid_wide _ _ _ _
    ·exact solid_wide _ _ _ _
    ·exact solid_pool _
    ·exact solid_poolW _ _ _
    ·exact solid_pool _
    ·exact hex.out t ht
   have KB : Hid (KeepsOthers w2 w4) := (KA.out.trans (KeepsOthers.drew w3)).trans (keeps_of (H4.out.quiet ((Chg.refl _ _).drew)) hex4.out C5.out (fun k hk => ⟨_, List.mem_cons_self, by rw [List.mem_singleton.1 hk]; exact List.mem_singleton.2 rfl⟩))
   clear KA hex4 C5 H4
   -- Next, and a new batch
   have bF : Blk w4 N 120 _ := H5.out.get 0 rfl
   have n1 := bF.cell (j := 1) rfl
   have f1 := bF.free 1
   obtain ⟨nx, hnx⟩ : ∃ nx, nx = sq + T.length := ⟨_, rfl⟩
   obtain ⟨nx1, hnx1⟩ : ∃ nx1, nx1 = sq + (T.length + 1) := ⟨_, rfl⟩
   have hq : sq ≤ 4611686018427387904 := HH.out.ok.1.2.2
   have e1 : (nx : Int) + 1 = (nx1 : Int) := by omega
   have wn : IntKind.u64.wrap (nx1 : Int) = (nx1 : Int) := IntWalk.u64_in _ (by have := HLT.out; omega)
   have H6 : Hid (Side w1 (w4.setCell ⟨N, 1, none⟩ (.int .u64 (nx1 : Int))) (fndT N tv3 nx1 (st.u + b'.rd) :: boxT (N + 1 + 1) g :: batT g ep (sq + T.length) b' (.slice po A'.length pc) :: wideT 2 92 tv3 (txSlots sq (T ++ [(.slice po A'.length pc, A')])) :: listT (.slice po A'.length pc) A' :: dataT A' :: poolWT 3 105 (listsOf T) :: poolT (dataOf T) :: cycTs (N + 1 + 1 + 1) (N + 1 + 1 + 1 + 1) tl (.slice (some ⟨rb, ro, none⟩) LN cap))) := by
    rw [txSlots_snoc]
    exact H5.out.turnAt (b := fndT N tv3 nx1 (st.u + b'.rd)) 0 rfl (s := [N]) ((Chg.refl [N] w4).setCell (p := ⟨N, 1, none⟩) (.inl (by simp)) _) (fun k hk => .inl hk) (bF.set 1 _) (fun k hk => .inl hk)
   have KC : Hid (KeepsOthers w2 (w4.setCell ⟨N, 1, none⟩ (.int .u64 (nx1 : Int)))) := KB.out.trans (KeepsOthers.setCell _ _ _)
   rw [← hnx] at n1
   have HN1 := Lib.hid hnx1
   have hnn : .int .u64 ((sq + T.length : Nat) : Int) = (.int .u64 (nx : Int) : Value) := by rw [hnx]
   have x0 := (B1.out.chg H6.out.chg (by simp)).cell (j := 0) rfl
   have m1 := (H6.out.get 0 rfl : Blk _ N 120 _).cell (j := 1) rfl
   clear hnx1 hnx hq KB H5 bF hnn
   gi_wp2
   refine ⟨trivial, ?_⟩
   refine (CallsIn.inRound l (callsIn_wide.2 (begin_any ep nx1 _))).mono ?_
   rintro e w6 ⟨rfl, rfl⟩
   clear n1 f1 x0 m1
   obtain ⟨w5, hw5⟩ : ∃ w5, w5 = w4.setCell ⟨N, 1, none⟩ (.int .u64 (nx1 : Int)) := ⟨_, rfl⟩
   rw [← hw5] at H6 KC ⊢
   clear hw5
   have H7 := Lib.hid (H6.out.box (btc ep nx1 0 0 0 Hd.zero (.slice none 0 0)) 280)
   have bb : Blk _ (N + 1 + 1) 272 _ := H7.out.get 2 rfl
   have b0 := bb.cell (j := 0) rfl
   have bf := bb.free 0
   have H8 : Hid (Side w1 ((w5.alloc (.cells (btc ep nx1 0 0 0 Hd.zero (.slice none 0 0)).toArray 280)).setCell ⟨N + 1 + 1, 0, none⟩ (.pointer (some ⟨w5.heap.size, 0, none⟩))) (blkT w5.heap.size 280 (btc ep nx1 0 0 0 Hd.zero (.slice none 0 0)) :: fndT N tv3 nx1 (st.u + b'.rd) :: boxT (N + 1 + 1) w5.heap.size :: batT g ep (sq + T.length) b' (.slice po A'.length pc) :: wideT 2 92 tv3 (txSlots sq (T ++ [(.slice po A'.length pc, A')])) :: listT (.slice po A'.length pc) A' :: dataT A' :: poolWT 3 105 (listsOf T) :: poolT (dataOf T) :: cycTs (N + 1 + 1 + 1) (N + 1 + 1 + 1 + 1) tl (.slice (some ⟨rb, ro, none⟩) LN cap))) :=
    H7.out.turnAt (b := boxT (N + 1 + 1) w5.heap.size) 2 rfl (s := [N + 1 + 1]) ((Chg.refl [N + 1 + 1] _).setCell (p := ⟨N + 1 + 1, 0, none⟩) (.inl (by simp)) _) (fun k hk => .inl hk) (bb.set 0 _) (fun k hk => .inl hk)
   have KD2 : Hid (KeepsOthers w2 ((w5.alloc (.cells (btc ep nx1 0 0 0 Hd.zero (.slice none 0 0)).toArray 280)).setCell ⟨N + 1 + 1, 0, none⟩ (.pointer (some ⟨w5.heap.size, 0, none⟩)))) := (KC.out.trans (KeepsOthers.alloc _ _)).trans (KeepsOthers.setCell _ _ _)
   clear bb H6 KC H7
   gi_wp2
   generalize ((w5.alloc (.cells (btc ep nx1 0 0 0 Hd.zero (.slice none 0 0)).toArray 280)).setCell ⟨N + 1 + 1, 0, none⟩ (.pointer (some ⟨w5.heap.size, 0, none⟩))) = w8 at H8 KD2 ⊢
   have H9 : Side w1 _ (scanTs N (N + 1 + 1) ep sq ⟨st.L ++ [b'.L], st.u + b'.rd, Sc.Bt.new⟩ w5.heap.size (.slice none 0 0) tv3 [] (T ++ [(.slice po A'.length pc, A')]) _) := mem_next (by
    have h := H8.out
    rw [HN1.out] at h
    exact h) _
   refine ⟨((KF.out _ CW.out).trans KD2.out).from _, ?_, ⟨st.L ++ [b'.L], st.u + b'.rd, Sc.Bt.new⟩, NX.out _ (KN.out.trans (by simp)), w5.heap.size, .slice none 0 0, tv3, [], T ++ [(.slice po A'.length pc, A')], rfl, ?_, H9⟩
   ·exact ⟨((H8.out.get 10 rfl : Blk _ (N + 1 + 1 + 1) 65 _).cell (j := 0) rfl).trans ((HM.out.get 9 rfl : Blk W (N + 1 + 1 + 1) 65 _).cell (j := 0) rfl).symm, ((H8.out.get 9 rfl : Blk _ (N + 1 + 1 + 1 + 1) 3 _).cell (j := 0) rfl).trans ((HM.out.get 8 rfl : Blk W (N + 1 + 1 + 1 + 1) 3 _).cell (j := 0) rfl).symm⟩
   ·show found _ = st.L ++ [b'.L]
    rw [found_snoc, HF.out, KD.out]
 case done =>
  rintro D ys W hD rfl ⟨st, hrun, HM⟩ hK
  have DN := Lib.hid (Sc.run_last (by rw [HH.out.len, Nat.mul_div_cancel_left n (by decide)]; exact hrun))
  have HE := HM.ends
  clear hrun HM
  obtain ⟨tv, T, hT, HE⟩ := HE
  have hu : st.u ≤ n := by have h := DN.out.1.fits; rw [HH.out.len, Nat.mul_div_cancel_left n (by decide)] at h; exact h
  obtain ⟨u, hue⟩ : ∃ u, u = st.u := ⟨_, rfl⟩
  rw [← hue] at HE hu DN
  rw [← hT] at DN
  have OT := Lib.hid (show OwnW 2 W 0 92 tv (txSlots sq T) from HE.get 1 rfl)
  obtain ⟨ta, tc, htv⟩ := OT.out.slice
  subst htv
  obtain ⟨nt, hnt⟩ : ∃ nt, nt = (txSlots sq T).length := ⟨_, rfl⟩
  rw [← hnt] at HE
  obtain ⟨nx, hnx⟩ : ∃ nx, nx = sq + T.length := ⟨_, rfl⟩
  rw [← hnx] at HE
  obtain ⟨S, hS⟩ : ∃ S, S = tl + u := ⟨_, rfl⟩
  obtain ⟨q, hq⟩ : ∃ q, q = S % n := ⟨_, rfl⟩
  have htl := HH.out.tl
  have e1 : (tl : Int) + (u : Int) = (S : Int) := by omega
  have e2 : Int.tmod (S : Int) (n : Int) = (q : Int) := by rw [hq]; rfl
  have e2' : (S : Int) % (n : Int) = (q : Int) := by rw [hq]; rfl
  have hqn : q < n := by rw [hq]; exact Nat.mod_lt _ (by omega)
  have v1 := sc_wrap (z := (S : Int)) (by omega) (by omega)
  have v2 := sc_wrap (z := (q : Int)) (by omega) (by omega)
  have hn3 : ¬ (n : Int) = 0 := by omega
  have HQ : Hid (q = (tl + u) % n) := by show _ = _; rw [hq, hS]
  have HNX := Lib.hid hnx
  have x2 := (B1.out.chg HE.chg (by simp)).cell (j := 2) rfl
  have bF : Blk W N 120 [.slice ta nt tc, .int .u64 (nx : Int), .int .i64 0, .int .i64 (u : Int)] := HE.get 0 rfl
  have c3 := bF.cell (j := 3) rfl
  have c2 := bF.cell (j := 2) rfl
  have f2 := bF.free 2
  have hNw : N ≠ w.heap.size + 1 := by have := R1.out.lt; have := HNE.out; omega
  have bG : Blk (W.setCell ⟨N, 2, none⟩ (.int .i64 (q : Int))) N 120 [.slice ta nt tc, .int .u64 (nx : Int), .int .i64 (q : Int), .int .i64 (u : Int)] := bF.set 2 _
  have g0 := bG.cell (j := 0) rfl
  have g1 := bG.cell (j := 1) rfl
  have g2 := bG.cell (j := 2) rfl
  have g3 := bG.cell (j := 3) rfl
  have RB := (R1.out.chg HE.chg (by simp)).other (a := ⟨N, 2, none⟩) hNw (.int .i64 (q : Int))
  have r0 := RB.cell (j := 0) rfl
  have r1 := RB.cell (j := 1) rfl
  have r2 := RB.cell (j := 2) rfl
  have r3 := RB.cell (j := 3) rfl
  have y0 := RB.free 0
  have y1 := RB.free 1
  have y2 := RB.free 2
  have y3 := RB.free 3
  have RBH := Lib.hid RB
  have HE2 : Hid (Side w1 (W.setCell ⟨N, 2, none⟩ (.int .i64 (q : Int))) [blkT N 120 [.slice ta nt tc, .int .u64 (nx : Int), .int .i64 (q : Int), .int .i64 (u : Int)], wideT 2 92 (.slice ta nt tc) (txSlots sq T), poolWT 3 105 (listsOf T), poolT (dataOf T)]) :=
   HE.turnAt (b := blkT N 120 [.slice ta nt tc, .int .u64 (nx : Int), .int .i64 (q : Int), .int .i64 (u : Int)]) 0 rfl (s := [N]) ((Chg.refl [N] W).setCell (p := ⟨N, 2, none⟩) (.inl (by simp)) _) (fun k hk => .inl hk) bG (fun k hk => .inl hk)
  have hK2 := heap_setCell_of hK rfl ⟨N, 2, none⟩ (.int .i64 (q : Int))
  replace hK2 := Lib.hid hK2
  have hDs : Hid (w.heap.size < D ∧ w1.heap.size ≤ D) := ⟨by have := D1.out.size; have := HNE.out; have := R1.out.lt; omega, by have := HNE.out; omega⟩
  clear hue hT OT hnt hnx hS hq bF bG RB HE hqn htl hu hK
  gi_wp2
  rw [Exit.noGoto_ret]
  have hK5 := heap_setCell_of (heap_setCell_of (heap_setCell_of (heap_setCell_of hK2.out rfl ⟨w.heap.size + 1, 0, none⟩ (.slice ta nt tc)) rfl ⟨w.heap.size + 1, 1, none⟩ (.int .u64 (nx : Int))) rfl ⟨w.heap.size + 1, 2, none⟩ (.int .i64 (q : Int))) rfl ⟨w.heap.size + 1, 3, none⟩ (.int .i64 (u : Int))
  refine ⟨by simp, .inl ⟨_, _, rfl, run_takeDeferred hK5, ?_⟩⟩
  have RF := sc_blk_kept ((((RBH.out.set 0 (.slice ta nt tc)).set 1 (.int .u64 (nx : Int))).set 2 (.int .i64 (q : Int))).set 3 (.int .i64 (u : Int))) (grownBy_putObj' _ D (.deferred none)) (fun r e => by cases e; exact ⟨_, hK5, rfl⟩)
  have SF : Side w _ [wideT 2 92 (.slice ta nt tc) (txSlots sq T), poolWT 3 105 (listsOf T), poolT (dataOf T)] := (Side.under D1.out HE2.out.tail ((((((Chg.refl [w.heap.size + 1] _).setCell (p := ⟨w.heap.size + 1, 0, none⟩) (.inl (by simp)) (.slice ta nt tc)).setCell (p := ⟨w.heap.size + 1, 1, none⟩) (.inl (by simp)) (.int .u64 (nx : Int))).setCell (p := ⟨w.heap.size + 1, 2, none⟩) (.inl (by simp)) (.int .i64 (q : Int))).setCell (p := ⟨w.heap.size + 1, 3, none⟩) (.inl (by simp)) (.int .i64 (u : Int)))) (fun k hk => by rw [List.mem_singleton.1 hk]; exact ⟨R1.out.lt, Nat.le_succ _⟩)).keep (fun t ht => by
   simp only [List.mem_cons, List.not_mem_nil, or_false] at ht
   rcases ht with rfl | rfl | rfl
   ·exact solid_wide _ _ _ _
   ·exact solid_poolW _ _ _
   ·exact solid_pool _) (grownBy_putObj' _ D (.deferred none)) (fun r e => by cases e; exact ⟨Nat.le_of_lt hDs.out.1, _, hK5, rfl⟩)
  refine ⟨_, rc_cell_and_tmp (ty := 120) rfl _ _ (w.heap.size + 1) _ _ _ _ rfl RF Tryz.underlying120 size_Fd, .slice ta nt tc, T, u, DN.out, ?_, SF⟩
  rw [← HQ.out, ← HNX.out]
  rfl
 case stop =>
  rintro D c pre W hD ⟨k, hkn, hpre⟩ ⟨rfl, st, pre0, x, e1, e2, e3, HE⟩ hK
  have hlen : bs.length / 128 = n := by rw [HH.out.len, Nat.mul_div_cancel_left n (by decide)]
  have hx : pre0 = come tl k ∧ x = tl + k := by
   rw [hpre, come_succ] at e1
   obtain ⟨h1, h2⟩ := List.append_inj' e1.symm rfl
   exact ⟨h1, by simpa using h2⟩
  obtain ⟨rfl, rfl⟩ := hx
  have DN := Lib.hid (Sc.run_stop (k := k) (by rw [hlen]; omega) e2 e3)
  clear e1 e2 e3 hpre hlen hkn
  obtain ⟨tv, T, hT, HE⟩ := HE
  have hu : st.u ≤ n := by have h := DN.out.1.fits; rw [HH.out.len, Nat.mul_div_cancel_left n (by decide)] at h; exact h
  obtain ⟨u, hue⟩ : ∃ u, u = st.u := ⟨_, rfl⟩
  rw [← hue] at HE hu DN
  rw [← hT] at DN
  have OT := Lib.hid (show OwnW 2 W 0 92 tv (txSlots sq T) from HE.get 1 rfl)
  obtain ⟨ta, tc, htv⟩ := OT.out.slice
  subst htv
  obtain ⟨nt, hnt⟩ : ∃ nt, nt = (txSlots sq T).length := ⟨_, rfl⟩
  rw [← hnt] at HE
  obtain ⟨nx, hnx⟩ : ∃ nx, nx = sq + T.length := ⟨_, rfl⟩
  rw [← hnx] at HE
  obtain ⟨S, hS⟩ : ∃ S, S = tl + u := ⟨_, rfl⟩
  obtain ⟨q, hq⟩ : ∃ q, q = S % n := ⟨_, rfl⟩
  have htl := HH.out.tl
  have e1 : (tl : Int) + (u : Int) = (S : Int) := by omega
  have e2 : Int.tmod (S : Int) (n : Int) = (q : Int) := by rw [hq]; rfl
  have e2' : (S : Int) % (n : Int) = (q : Int) := by rw [hq]; rfl
  have hqn : q < n := by rw [hq]; exact Nat.mod_lt _ (by omega)
  have v1 := sc_wrap (z := (S : Int)) (by omega) (by omega)
  have v2 := sc_wrap (z := (q : Int)) (by omega) (by omega)
  have hn3 : ¬ (n : Int) = 0 := by omega
  have HQ : Hid (q = (tl + u) % n) := by show _ = _; rw [hq, hS]
  have HNX := Lib.hid hnx
  have x2 := (B1.out.chg HE.chg (by simp)).cell (j := 2) rfl
  have bF : Blk W N 120 [.slice ta nt tc, .int .u64 (nx : Int), .int .i64 0, .int .i64 (u : Int)] := HE.get 0 rfl
  have c3 := bF.cell (j := 3) rfl
  have c2 := bF.cell (j := 2) rfl
  have f2 := bF.free 2
  have hNw : N ≠ w.heap.size + 1 := by have := R1.out.lt; have := HNE.out; omega
  have bG : Blk (W.setCell ⟨N, 2, none⟩ (.int .i64 (q : Int))) N 120 [.slice ta nt tc, .int .u64 (nx : Int), .int .i64 (q : Int), .int .i64 (u : Int)] := bF.set 2 _
  have g0 := bG.cell (j := 0) rfl
  have g1 := bG.cell (j := 1) rfl
  have g2 := bG.cell (j := 2) rfl
  have g3 := bG.cell (j := 3) rfl
  have RB := (R1.out.chg HE.chg (by simp)).other (a := ⟨N, 2, none⟩) hNw (.int .i64 (q : Int))
  have r0 := RB.cell (j := 0) rfl
  have r1 := RB.cell (j := 1) rfl
  have r2 := RB.cell (j := 2) rfl
  have r3 := RB.cell (j := 3) rfl
  have y0 := RB.free 0
  have y1 := RB.free 1
  have y2 := RB.free 2
  have y3 := RB.free 3
  have RBH := Lib.hid RB
  have HE2 : Hid (Side w1 (W.setCell ⟨N, 2, none⟩ (.int .i64 (q : Int))) [blkT N 120 [.slice ta nt tc, .int .u64 (nx : Int), .int .i64 (q : Int), .int .i64 (u : Int)], wideT 2 92 (.slice ta nt tc) (txSlots sq T), poolWT 3 105 (listsOf T), poolT (dataOf T)]) :=
   HE.turnAt (b := blkT N 120 [.slice ta nt tc, .int .u64 (nx : Int), .int .i64 (q : Int), .int .i64 (u : Int)]) 0 rfl (s := [N]) ((Chg.refl [N] W).setCell (p := ⟨N, 2, none⟩) (.inl (by simp)) _) (fun k hk => .inl hk) bG (fun k hk => .inl hk)
  have hK2 := heap_setCell_of hK rfl ⟨N, 2, none⟩ (.int .i64 (q : Int))
  replace hK2 := Lib.hid hK2
  have hDs : Hid (w.heap.size < D ∧ w1.heap.size ≤ D) := ⟨by have := D1.out.size; have := HNE.out; have := R1.out.lt; omega, by have := HNE.out; omega⟩
  clear hue hT OT hnt hnx hS hq bF bG RB HE hqn htl hu hK
  gi_wp2
  rw [Exit.noGoto_ret]
  have hK5 := heap_setCell_of (heap_setCell_of (heap_setCell_of (heap_setCell_of hK2.out rfl ⟨w.heap.size + 1, 0, none⟩ (.slice ta nt tc)) rfl ⟨w.heap.size + 1, 1, none⟩ (.int .u64 (nx : Int))) rfl ⟨w.heap.size + 1, 2, none⟩ (.int .i64 (q : Int))) rfl ⟨w.heap.size + 1, 3, none⟩ (.int .i64 (u : Int))
  refine ⟨by simp, .inl ⟨_, _, rfl, run_takeDeferred hK5, ?_⟩⟩
  have RF := sc_blk_kept ((((RBH.out.set 0 (.slice ta nt tc)).set 1 (.int .u64 (nx : Int))).set 2 (.int .i64 (q : Int))).set 3 (.int .i64 (u : Int))) (grownBy_putObj' _ D (.deferred none)) (fun r e => by cases e; exact ⟨_, hK5, rfl⟩)
  have SF : Side w _ [wideT 2 92 (.slice ta nt tc) (txSlots sq T), poolWT 3 105 (listsOf T), poolT (dataOf T)] := (Side.under D1.out HE2.out.tail ((((((Chg.refl [w.heap.size + 1] _).setCell (p := ⟨w.heap.size + 1, 0, none⟩) (.inl (by simp)) (.slice ta nt tc)).setCell (p := ⟨w.heap.size + 1, 1, none⟩) (.inl (by simp)) (.int .u64 (nx : Int))).setCell (p := ⟨w.heap.size + 1, 2, none⟩) (.inl (by simp)) (.int .i64 (q : Int))).setCell (p := ⟨w.heap.size + 1, 3, none⟩) (.inl (by simp)) (.int .i64 (u : Int)))) (fun k hk => by rw [List.mem_singleton.1 hk]; exact ⟨R1.out.lt, Nat.le_succ _⟩)).keep (fun t ht => by
   simp only [List.mem_cons, List.not_mem_nil, or_false] at ht
   rcases ht with rfl | rfl | rfl
   ·exact solid_wide _ _ _ _
   ·exact solid_poolW _ _ _
   ·exact solid_pool _) (grownBy_putObj' _ D (.deferred none)) (fun r e => by cases e; exact ⟨Nat.le_of_lt hDs.out.1, _, hK5, rfl⟩)
  refine ⟨_, rc_cell_and_tmp (ty := 120) rfl _ _ (w.heap.size + 1) _ _ _ _ rfl RF Tryz.underlying120 size_Fd, .slice ta nt tc, T, u, DN.out, ?_, SF⟩
  rw [← HQ.out, ← HNX.out]
  rfl


end Go.Proofs.YtkafkdlgflkjgaaGreat

/-
  The program's scan: what the laws use. By an AI agent.
-/
namespace Go.Proofs.YtkafkdlgflkjgaaGreat
open Crc Go.RowKit

set_option maxHeartbeats 4000000 in
set_option maxRecDepth 100000 in
theorem sectors_no (ep sq : Nat) (v : Value) (ds : List PtD) (w : World) (h : Pts w v ds) (h0 : scErr ep sq ds ≠ 0) : Calls Tryz.prog 103 #[.int .u64 (ep : Int), .agg #[.int .u64 (sq : Int), v]] w fun e w' => e = .returned (.tuple #[.slice none 0 0, .int .u16 (scErr ep sq ds)]) ∧ Hid (Chg [] w w') := by
 have CKC : Hid (∀ w', Chg [] w w' → Calls Tryz.prog 158 #[.int .u64 (ep : Int), .agg #[.int .u64 (sq : Int), v]] w' fun e w'' => e = .returned (.int .u16 (scErr ep sq ds)) ∧ Hid (Chg [] w' w'')) := fun w' c => check_any ep sq v ds w' (h.chg c)
 obtain ⟨ao, vc, rfl⟩ := h.slice
 obtain ⟨E, hE⟩ : ∃ E, E = scErr ep sq ds := ⟨_, rfl⟩
 rw [← hE] at CKC h0 ⊢
 have ht : (E != 0) = true := by simpa using h0
 clear hE h h0
 have W0 : Hid (∀ w', Chg [] (w.alloc (.cells #[.int .u64 (sq : Int), .slice ao ds.length vc] 92)) w' → w'.cell? ⟨w.heap.size, 0, none⟩ = some (.int .u64 (sq : Int)) ∧ w'.cell? ⟨w.heap.size, 1, none⟩ = some (.slice ao ds.length vc) ∧ Chg [] w w') := fun w' c =>
  ⟨((Blk.made w _ _).chg c (by simp)).cell (j := 0) rfl, ((Blk.made w _ _).chg c (by simp)).cell (j := 1) rfl, ((Chg.refl _ _).alloc _).trans c⟩
 obtain ⟨wb, hwb⟩ : ∃ wb, wb = (w.alloc (.cells #[.int .u64 (sq : Int), .slice ao ds.length vc] 92)) := ⟨_, rfl⟩
 rw [← hwb] at W0
 have CB : Hid (Chg [] w wb) := by rw [hwb]; exact (Chg.refl _ _).alloc _
 go_enter Tryz.func103, Tryz.ntmps103
 go_wp2_with fail
 rw [← hwb]
 refine (CKC.out _ CB.out).mono ?_
 rintro e w1 ⟨rfl, C1⟩
 go_wp2_with fail
 go_ret2
 exact ⟨rfl, CB.out.trans C1.out⟩

theorem row_sl {w0 w : World} {ts : List Thing} {vs : List Rw} (h : Side w0 w ts) (j : Nat) (hj : ts[j]? = some (poolT vs)) {i : Nat} {p : Rw} (hp : vs[i]? = some p) {s : List Nat} (hs : p.2 = ub s) : Sl w p.1 (ints s) ∧ Cap p.1 := by
 have pl : Pool w vs := h.get j hj
 obtain ⟨e1, ho⟩ := pl.row p (List.mem_of_getElem? hp)
 rw [hs] at ho
 exact ⟨Sl.owned (show w.ownsRow 0 e1 1 p.1 (ub s).length ((ints s).map (Value.int .u8)) from ho), owned_capd ho⟩


theorem own_some {w : World} {base n : Nat} {e : TypeId} {v : Value} {xs : List Value} (h : w.ownsRow base e 1 v n xs) (hn : 0 < n) : ∃ g c, v = .slice (some ⟨g, 0, none⟩) n c ∧ base ≤ g := by
 rcases h.2 with ⟨_, h2⟩ | ⟨g, cap, cur, hv, hb, _⟩
 ·omega
 ·exact ⟨g, cap, hv, hb⟩

end Go.Proofs.YtkafkdlgflkjgaaGreat
namespace Go.Proofs.YtkafkdlgflkjgaaGreat.Sc
open Go.RowKit Crc

theorem secs_ok {ep sq : Nat} {l : List Pd} (hg : Good l) : ∀ s ∈ secs ep sq l, s.length = 128 ∧ Bs s := fun s hs => by
 obtain ⟨j, hj⟩ := List.getElem?_of_mem hs
 have hl : j < 2 * l.length + 1 := by rw [← secs_len ep sq l]; exact (List.getElem?_eq_some_iff.1 hj).1
 have A : ∀ i, i < l.length → PtOk (at' l i) := fun i hi => by rw [at'_eq (List.getElem?_eq_getElem hi)]; exact hg.2.2 _ (List.getElem_mem hi)
 by_cases c : j = 2 * l.length
 ·subst c
  rw [secs_cm] at hj
  cases hj
  exact ⟨Rec.sector_length (by show (2 : Nat) ≤ 25; decide), Rec.sector_bs _⟩
 ·obtain ⟨i, rfl | rfl⟩ : ∃ i, j = 2 * i ∨ j = 2 * i + 1 := ⟨j / 2, by omega⟩
  ·rw [secs_hd ep sq (by omega)] at hj
   cases hj
   exact ⟨Rec.sector_length (by show (6 : Nat) ≤ 25; decide), Rec.sector_bs _⟩
  ·rw [secs_dt ep sq (by omega)] at hj
   cases hj
   have h := A i (by omega)
   exact ⟨esc_len h.2.2.1, esc_bs h.2.2.1 h.2.2.2⟩

def noughts (n : Nat) : List Nat := List.replicate n 0

theorem noughts_len (n : Nat) : (noughts n).length = n := List.length_replicate ..

def p0 : Pd := ⟨0, 0, zeros⟩

end Go.Proofs.YtkafkdlgflkjgaaGreat.Sc
namespace Go.Proofs.YtkafkdlgflkjgaaGreat
open Go.RowKit Crc

theorem info_b8 : (Tryz.prog.info? 5).map (fun i => (i.zero, i.size, i.bytes)) = some (some (.int .u8 0), 1, 1) := by kernel_rfl

end Go.Proofs.YtkafkdlgflkjgaaGreat

/-
  ScanNumbers: its walk. By an AI agent.
-/
namespace Go.Proofs.YtkafkdlgflkjgaaGreat
open Go.RowKit Crc

/-- What was used by the first of the batches. -/
def usedOf (T : List Tx) (k : Nat) : Nat := ((found T).take k |>.map fun l => 2 * l.length + 1).sum

/-- How what was found reads. -/
theorem found_at {w0 w : World} {ts : List Thing} {tv : Value} {sq : Nat} {T : List Tx} (h : Side w0 w (wideT 2 92 tv (txSlots sq T) :: poolWT 3 105 (listsOf T) :: ts)) {k : Nat} {t : Tx} (hk : T[k]? = some t) :
 ∃ g c ao c2, tv = .slice (some ⟨g, 0, none⟩) T.length c ∧ t.1 = .slice ao t.2.length c2 ∧ w.cell? ⟨g, k * 2, none⟩ = some (.int .u64 ((sq : Int) + k)) ∧ w.cell? ⟨g, k * 2 + 1, none⟩ = some t.1 := by
 have ow : OwnW 2 w 0 92 tv (txSlots sq T) := h.get 0 rfl
 have pw : PoolW 3 w 105 (listsOf T) := h.get 1 rfl
 have R := ow.rd
 obtain ⟨lo, lc, hlv⟩ := R.slice
 rw [txSlots_len] at hlv
 subst hlv
 have hx : (txSlots sq T)[k]? = some [.int .u64 ((sq + k : Nat) : Int), t.1] := by unfold txSlots; rw [List.getElem?_mapIdx, hk]; rfl
 obtain ⟨g, rfl, hc⟩ := R.at hx
 have o2 := pw.row (t.1, t.2.map pvSlot) (List.mem_of_getElem? (i := k) (by unfold listsOf; rw [List.getElem?_map, hk]; rfl))
 obtain ⟨ao, c2, h2⟩ := o2.slice
 rw [List.length_map] at h2
 exact ⟨g, lc, ao, c2, rfl, h2, by have := hc 0 _ rfl; rw [Nat.add_zero] at this; rw [this]; simp, hc 1 _ rfl⟩

/-- The numbers of what was found. -/
structure NumF (n sq tl u : Nat) (T : List Tx) : Prop where
 fits : u ≤ n
 each : ∀ k t, T[k]? = some t → 1 ≤ t.2.length ∧ sq + k ≤ 4611686018427387904 ∧ usedOf T (k + 1) ≤ n
 few : T.length ≤ n

end Go.Proofs.YtkafkdlgflkjgaaGreat
