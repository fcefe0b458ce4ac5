/-
  The program's scan: whether a batch may be written. By an AI agent.
-/
import Derived.Test.YtaggfbgbmiifaaaGreatBScCom
import Derived.Deep.RegionHeld3
import Derived.Test.YtaggfbgbmiifaaaGreatBGOrder
import Derived.Test.YtaggfbgbmiifaaaGreatBGPv
import Derived.RangeFuncFrom
import Derived.Test.YtaggfbgbmiifaaaGreatBScSpec
import Derived.Test.YtaggfbgbmiifaaaGreatBRcPFld
import Derived.Test.YtaggfbgbmiifaaaGreatBRcEsc
namespace Go.Proofs.YtaggfbgbmiifaaaGreat
open Crc Go.RowKit

def farP (d : PtD) : Bool := decide (d.m < 0 ∨ 15 < d.m ∨ d.r < 0 ∨ 4095 < d.r)
def shortP (d : PtD) : Bool := decide (d.d.length ≠ 128)
def farN (ep sq : Nat) : Prop := 4611686018427387904 < ep ∨ sq < 1 ∨ 4611686018427387904 < sq

instance (ep sq : Nat) : Decidable (farN ep sq) := by unfold farN; infer_instance

/-- What Sectors refuses. -/
def scErr (ep sq : Nat) (ds : List PtD) : Int := if 1 ≤ ds.length ∧ ds.length ≤ 1023 then (if farN ep sq ∨ ds.any farP = true then 3 else if ds.any shortP = true then 4 else 0) else 1

theorem any_take {f : PtD → Bool} {ds : List PtD} {k : Nat} {d : PtD} (hd : ds[k]? = some d) (h : (ds.take k).any f = false) : (ds.take (k + 1)).any f = f d := by
  rw [take_snoc hd, List.any_append, h]
  simp

theorem any_at {f : PtD → Bool} {ds : List PtD} {k : Nat} {d : PtD} (hd : ds[k]? = some d) (h : f d = true) : ds.any f = true := List.any_eq_true.2 ⟨d, List.mem_of_getElem? hd, h⟩

set_option maxHeartbeats 4000000 in
set_option maxRecDepth 100000 in
theorem check_any (ep sq : Nat) (v : Value) (ds : List PtD) (w : World) (h : Pts w v ds) : Calls Tryz.prog 158 #[.int .u64 (ep : Int), .agg #[.int .u64 (sq : Int), v]] w fun e w' => e = .returned (.int .u16 (scErr ep sq ds)) ∧ Hid (Chg [] w w') := by
  obtain ⟨ao, vc, rfl⟩ := h.slice
  have big := h.len
  have HP : Hid (∀ w', Chg [] w w' → Pts w' (.slice ao ds.length vc) ds) := fun w' c => h.chg c
  have wi : Hid (∀ n a b w, Calls Tryz.prog 176 #[.int .i64 n, .int .i64 a, .int .i64 b] w fun e w' => e = .returned (.bool (decide (a ≤ n ∧ n ≤ b))) ∧ w = w') := fun n a b w => scwithin_any n a b w
  have SE : Hid (∀ E, scErr ep sq ds = E → scErr ep sq ds = E) := fun E h => h
  clear h
  have W0 : Hid (∀ w', Chg [] (w.alloc (.cells #[.int .u64 (sq : Int), .slice ao ds.length vc] 92)) w' → w'.cell? ⟨w.heap.size, 0, none⟩ = some (.int .u64 (sq : Int)) ∧ w'.cell? ⟨w.heap.size, 1, none⟩ = some (.slice ao ds.length vc) ∧ Chg [] w w') := fun w' c =>
    ⟨((Blk.made w _ _).chg c (by simp)).cell (j := 0) rfl, ((Blk.made w _ _).chg c (by simp)).cell (j := 1) rfl, ((Chg.refl _ _).alloc _).trans c⟩
  by_cases h1 : 1 ≤ (ds.length : Int) ∧ (ds.length : Int) ≤ 1023
  case neg =>
    have e1 : scErr ep sq ds = 1 := by unfold scErr; rw [if_neg (by omega)]
    have w1 := Lib.hid (wi.out (ds.length : Int) 1 1023)
    rw [decide_eq_false h1] at w1
    rw [e1]
    clear e1 SE h1
    go_enter Tryz.func158, Tryz.ntmps158
    go_wp2_with (go_at_call 176; refine (w1.out _).mono ?_; rintro e w' ⟨rfl, rfl⟩)
    go_ret
    exact ⟨rfl, (W0.out _ (Chg.refl _ _)).2.2⟩
  have w1 := Lib.hid (wi.out (ds.length : Int) 1 1023)
  rw [decide_eq_true h1] at w1
  have e1 : scErr ep sq ds = (if farN ep sq ∨ ds.any farP = true then 3 else if ds.any shortP = true then 4 else 0) := by unfold scErr; rw [if_pos (by omega)]
  by_cases h2 : farN ep sq
  case pos =>
    rw [e1, if_pos (.inl h2)]
    clear e1 SE h1
    have h2' : (4611686018427387904 : Int) < ep ∨ (ep : Int) ≤ 4611686018427387904 ∧ (sq : Int) < 1 ∨ (ep : Int) ≤ 4611686018427387904 ∧ 1 ≤ (sq : Int) ∧ (4611686018427387904 : Int) < sq := by unfold farN at h2; omega
    clear h2
    go_enter Tryz.func158, Tryz.ntmps158
    rcases h2' with h | ⟨h, k⟩ | ⟨h, k, l⟩
    all_goals go_wp2_with (go_at_call 176; refine (w1.out _).mono ?_; rintro e w' ⟨rfl, rfl⟩)
    all_goals go_ret
    all_goals exact ⟨rfl, (W0.out _ (Chg.refl _ _)).2.2⟩
  have g1 : ¬ (4611686018427387904 : Int) < ep := by unfold farN at h2; omega
  have g2 : ¬ (sq : Int) < 1 := by unfold farN at h2; omega
  have g3 : ¬ (4611686018427387904 : Int) < sq := by unfold farN at h2; omega
  have e2 : Hid (scErr ep sq ds = (if ds.any farP = true then 3 else if ds.any shortP = true then 4 else 0)) := by
    show _ = _
    rw [e1]
    by_cases c : ds.any farP = true
    · rw [if_pos (.inr c), if_pos c]
    · rw [if_neg (fun k => k.elim h2 c), if_neg c]
  generalize scErr ep sq ds = E at *
  clear e1 h2 h1 SE
  go_enter Tryz.func158, Tryz.ntmps158
  go_wp2_with (go_at_call 176; refine (w1.out _).mono ?_; rintro e w' ⟨rfl, rfl⟩)
  clear g1 g2 g3 w1
  have C0 := Lib.hid (Chg.refl [] (w.alloc (.cells #[.int .u64 (sq : Int), .slice ao ds.length vc] 92)))
  generalize hwb : (w.alloc (.cells #[.int .u64 (sq : Int), .slice ao ds.length vc] 92)) = wb at *
  clear hwb
  go_loopw [29] (fun i wr => ∃ k : Nat, k ≤ ds.length ∧ i = .int .i64 k ∧ Hid ((ds.take k).any farP = false) ∧ Hid (Chg [] wb wr)) (fun i _ => ds.length - (intOf i).toNat)
  case atStart => exact ⟨0, Nat.zero_le _, rfl, (by show _ = _; simp), Chg.refl _ _⟩
  case round =>
    obtain ⟨k, hk, rfl, NF, CR⟩ := hrel
    obtain ⟨y0, y1, CW⟩ := W0.out _ CR.out
    replace CW := Lib.hid CW
    by_cases hlt : k < ds.length
    · obtain ⟨x, hx⟩ : ∃ x, ds[k]? = some x := ⟨_, List.getElem?_eq_getElem hlt⟩
      obtain ⟨b, o, rfl, hbl, I⟩ := (HP.out _ CW.out).at hx
      have c0 := I.c0
      have c1 := I.c1
      have c2 := I.c2
      obtain ⟨xo, xc, hxv⟩ := I.sl.slice
      rw [hxv] at c2
      obtain ⟨xm, xr, xv, xd⟩ := x
      dsimp only at c0 c1 c2 hxv
      have HX := Lib.hid hx
      have nl : xd.length < 9223372036854775807 := by have := I.big; dsimp only at this; omega
      obtain ⟨N, hN⟩ : ∃ N, N = xd.length := ⟨_, rfl⟩
      rw [← hN] at c2 nl
      clear hx hxv hN I
      have hi0 : (0 : Int) ≤ k := Int.natCast_nonneg _
      have hi1 : (k : Int) < ds.length := by omega
      have wm := Lib.hid (wi.out xm 0 15)
      have wr' := Lib.hid (wi.out xr 0 4095)
      by_cases hf : farP ⟨xm, xr, xv, xd⟩ = true
      · have e3 : E = 3 := by rw [e2.out, if_pos (any_at HX.out hf)]
        have hf' : (xm < 0 ∨ 15 < xm) ∨ (0 ≤ xm ∧ xm ≤ 15 ∧ (xr < 0 ∨ 4095 < xr)) := by unfold farP at hf; have := of_decide_eq_true hf; dsimp only at this; omega
        subst e3
        clear hf NF e2
        rcases hf' with hf | ⟨ha, hb, hc⟩
        · rw [decide_eq_false (by omega)] at wm
          clear hf
          go_wp2_with (go_at_call 176; refine (wm.out _).mono ?_; rintro e w' ⟨rfl, rfl⟩)
          go_ret
          exact ⟨rfl, CW.out.alloc _⟩
        · rw [decide_eq_true ⟨ha, hb⟩] at wm
          rw [decide_eq_false (by omega)] at wr'
          clear ha hb hc
          go_wp2_with (first | (go_at_call 176; with_reducible refine (wm.out _).mono ?_; rintro e w' ⟨rfl, rfl⟩; clear wm) | (go_at_call 176; refine (wr'.out _).mono ?_; rintro e w' ⟨rfl, rfl⟩))
          go_ret
          exact ⟨rfl, CW.out.alloc _⟩
      · have hf' : 0 ≤ xm ∧ xm ≤ 15 ∧ 0 ≤ xr ∧ xr ≤ 4095 := by unfold farP at hf; simp at hf; omega
        have NF2 : Hid ((ds.take (k + 1)).any farP = false) := by show _ = _; rw [any_take HX.out NF.out]; simpa using hf
        obtain ⟨ha, hb, hc, hd⟩ := hf'
        rw [decide_eq_true ⟨ha, hb⟩] at wm
        rw [decide_eq_true ⟨hc, hd⟩] at wr'
        clear ha hb hc hd hf NF
        have CR2 := Lib.hid (CR.out.alloc (.cells #[.int .i64 xm, .int .i64 xr, .slice xo N xc] 105))
        go_wp2_with (first | (go_at_call 176; with_reducible refine (wm.out _).mono ?_; rintro e w' ⟨rfl, rfl⟩; clear wm) | (go_at_call 176; refine (wr'.out _).mono ?_; rintro e w' ⟨rfl, rfl⟩))
        exact ⟨⟨k + 1, by omega, by go_num, NF2, CR2⟩, by simp [intOf]; omega⟩
    · obtain rfl : k = ds.length := by omega
      have e4 : Hid (E = if ds.any shortP = true then 4 else 0) := by
        show _ = _
        have h := NF.out
        rw [List.take_length] at h
        rw [e2.out, if_neg (by rw [h]; decide)]
      clear e2 NF hlt hk
      go_wp2_with fail
      obtain ⟨wc, hwc⟩ : ∃ wc, wc = wr := ⟨_, rfl⟩
      subst hwc
      go_loopw [47] (fun i wr => ∃ k : Nat, k ≤ ds.length ∧ i = .int .i64 k ∧ Hid ((ds.take k).any shortP = false) ∧ Hid (Chg [] wb wr)) (fun i _ => ds.length - (intOf i).toNat)
      case atStart => exact ⟨0, Nat.zero_le _, rfl, (by show _ = _; simp), CR⟩
      case round =>
        obtain ⟨k, hk, rfl, NS, CR⟩ := hrel
        clear CW y0 y1
        obtain ⟨y0, y1, CW⟩ := W0.out _ CR.out
        replace CW := Lib.hid CW
        by_cases hlt : k < ds.length
        · obtain ⟨x, hx⟩ : ∃ x, ds[k]? = some x := ⟨_, List.getElem?_eq_getElem hlt⟩
          obtain ⟨b, o, rfl, hbl, I⟩ := (HP.out _ CW.out).at hx
          have c0 := I.c0
          have c1 := I.c1
          have c2 := I.c2
          obtain ⟨xo, xc, hxv⟩ := I.sl.slice
          rw [hxv] at c2
          obtain ⟨xm, xr, xv, xd⟩ := x
          dsimp only at c0 c1 c2 hxv
          have HX := Lib.hid hx
          obtain ⟨N, hN⟩ : ∃ N, N = xd.length := ⟨_, rfl⟩
          rw [← hN] at c2
          have hi0 : (0 : Int) ≤ k := Int.natCast_nonneg _
          have hi1 : (k : Int) < ds.length := by omega
          by_cases hs : N = 128
          · have NS2 : Hid ((ds.take (k + 1)).any shortP = false) := by show _ = _; rw [any_take HX.out NS.out]; simp [shortP, ← hN, hs]
            subst hs
            clear hx hxv I NS hN
            have CR2 := Lib.hid (CR.out.alloc (.cells #[.int .i64 xm, .int .i64 xr, .slice xo 128 xc] 105))
            go_wp2_with fail
            exact ⟨⟨k + 1, by omega, by go_num, NS2, CR2⟩, by simp [intOf]; omega⟩
          · have e5 : E = 4 := by rw [e4.out, if_pos (any_at HX.out (by simp [shortP, ← hN, hs]))]
            subst e5
            have hs2 : ((N : Int) != 128) = true := by simp; omega
            clear hx hxv I NS e4 hN
            go_wp2_with fail
            go_ret
            exact ⟨rfl, CW.out.alloc _⟩
        · have e5 : E = 0 := by
            rw [e4.out]
            obtain rfl : k = ds.length := by omega
            have h := NS.out
            rw [List.take_length] at h
            rw [if_neg (by rw [h]; decide)]
          subst e5
          have hge : ¬ (k : Int) < ds.length := by omega
          clear e4 NS hlt hk
          go_wp2_with fail
          go_ret
          exact ⟨rfl, CW.out⟩


theorem runH_field {P : Program} {S : World → Prop} {a : Act} {t : TypeId} {x : Operand} {k : Nat} {u v : Value} (hx : a.eval x = u) (h : ∀ w : World, (Instr.fieldAt t u k).run P w = .ok v w) : ∀ (ρ : Operand → Value), ρ = a.eval → ∀ o : Oper, o.op = .fieldAddr t x k → ∀ w, S w → (execOp ρ o).run P w = .ok (.value v) w := by
  intro ρ hρ o ho w _
  subst hρ
  exact run_field_at _ hx h o ho w

theorem runH_nil {P : Program} {S : World → Prop} {a : Act} {x : Operand} {p : Addr} (hx : a.eval x = .pointer (some p)) : ∀ (ρ : Operand → Value), ρ = a.eval → ∀ o : Oper, o.op = .nilCheck x → ∀ w, S w → (execOp ρ o).run P w = .ok (.value (.pointer (some p))) w := by
  intro ρ hρ o ho w _
  subst hρ
  exact run_nil_at _ hx o ho w

section
variable {P : Program} {md : Region.Mode} {ops : Array Oper} {R : Act → World → Prop} {S : World → Prop} {fuel : Nat} {listed : Array Bool} {a : Act} {w : World} {i : Nat}

/-- One that reads, where it comes up. -/
theorem readyH_load {d : Tmp} {rs : List Nat} {t : TypeId} {x : Operand} {u v : Value} (h : OpIs ops i (some d) (.load t x)) (hx : a.eval x = u) (hrun : (Instr.loadAt t u).run P w = .ok v w) {l' : Array Bool} (hl : listed.setIfInBounds i true = l') {a' : Act} (ha : a.put (some d) v = a') (hS : S w)
    (k : wpAnyH P md ops (cutQ R) S fuel l' a' w) (hs : AllReadyH P md ops (cutQ R) S fuel listed a w rs) : AllReadyH P md ops (cutQ R) S fuel listed a w (i :: rs) := by
  refine readyH_op h hl (fun o K hop hd hK => ?_) hs
  unfold Oper.wp execOp
  simp only [hop, hx]
  simp [hrun]
  rw [Oper.upon_value, hd, ha]
  exact hK _ _ hS k

theorem readyH_field {d : Tmp} {rs : List Nat} {t : TypeId} {x : Operand} {k : Nat} {u v : Value} (h : OpIs ops i (some d) (.fieldAddr t x k)) (hx : a.eval x = u) (hrun : (Instr.fieldAt t u k).run P w = .ok v w) {l' : Array Bool} (hl : listed.setIfInBounds i true = l') {a' : Act} (ha : a.put (some d) v = a') (hS : S w)
    (q : wpAnyH P md ops (cutQ R) S fuel l' a' w) (hs : AllReadyH P md ops (cutQ R) S fuel listed a w rs) : AllReadyH P md ops (cutQ R) S fuel listed a w (i :: rs) := by
  refine readyH_op h hl (fun o K hop hd hK => ?_) hs
  unfold Oper.wp execOp
  simp only [hop, hx]
  simp [hrun]
  rw [Oper.upon_value, hd, ha]
  exact hK _ _ hS q

/-- A slice literal. -/
theorem readyH_literal {d : Tmp} {rs : List Nat} {t : TypeId} {n : Nat} {parts : Array (Nat × Operand)} {vs : Array (Nat × Value)} {e : TypeId} {cs : List Value} (h : OpIs ops i (some d) (.buildSlice t n parts)) (hv : parts.map (fun p => (p.1, a.eval p.2)) = vs)
    (hrun : (Instr.buildSlice t n vs).run P w = .ok (.slice (some ⟨w.heap.size, 0, none⟩) n n) (w.alloc (.cells cs.toArray e))) {l' : Array Bool} (hl : listed.setIfInBounds i true = l') {a' : Act} (ha : a.put (some d) (.slice (some ⟨w.heap.size, 0, none⟩) n n) = a')
    (hS : S (w.alloc (.cells cs.toArray e))) (k : wpAnyH P md ops (cutQ R) S fuel l' a' (w.alloc (.cells cs.toArray e)))
    (hs : AllReadyH P md ops (cutQ R) S fuel listed a w rs) : AllReadyH P md ops (cutQ R) S fuel listed a w (i :: rs) := by
  refine readyH_op h hl (fun o K hop hd hK => ?_) hs
  unfold Oper.wp execOp
  simp only [hop]
  rw [← hv] at hrun
  simp [hrun]
  rw [Oper.upon_value, hd, ha]
  exact hK _ _ hS k

theorem readyH_append {d : Tmp} {rs : List Nat} {s x : Operand} {t : TypeId} {v y : Value} {Φ : Value → World → Prop} (h : OpIs ops i (some d) (.call { callee := .builtin .append, args := #[s, x], argTypes := #[t, t] })) (hs0 : a.eval s = v) (hx : a.eval x = y)
    (hrun : ∀ ty, ∃ v' w', (Builtin.append_ #[t, t] ty #[v, y]).run P w = .ok v' w' ∧ Φ v' w') {l' : Array Bool} (hl : listed.setIfInBounds i true = l')
    (k : ∀ v' w', Φ v' w' → ∃ a', a.put (some d) v' = a' ∧ S w' ∧ wpAnyH P md ops (cutQ R) S fuel l' a' w')
    (hs : AllReadyH P md ops (cutQ R) S fuel listed a w rs) : AllReadyH P md ops (cutQ R) S fuel listed a w (i :: rs) := by
  refine readyH_op h hl (fun o K hop hd hK => ?_) hs
  obtain ⟨v', w', hr, hp⟩ := hrun o.type
  obtain ⟨a', ha, hS, q⟩ := k v' w' hp
  unfold Oper.wp
  simp [execOp, hop, resolve, invoke, builtin, hs0, hx, hr, Result.andThen]
  rw [Oper.upon_value, hd, ha]
  exact hK _ _ hS q

theorem readyH_store1 {rs : List Nat} {t : TypeId} {x y : Operand} {p v : Value} {w' : World} (h : OpIs ops i none (.store t x y)) (hx : a.eval x = p) (hy : a.eval y = v)
    (hr : (Instr.storeAt t p v).run P w = .ok () w') {l' : Array Bool} (hl : listed.setIfInBounds i true = l')
    (hS : S w') (k : wpAnyH P md ops (cutQ R) S fuel l' a w')
    (hs : AllReadyH P md ops (cutQ R) S fuel listed a w rs) : AllReadyH P md ops (cutQ R) S fuel listed a w (i :: rs) := by
  refine readyH_op h hl (fun o K hop hd hK => ?_) hs
  unfold Oper.wp execOp
  simp only [hop, hx, hy]
  simp [hr]
  first
    | (rw [Oper.upon_skip, hd]; exact hK _ _ hS k)
    | (unfold Oper.upon; simp [hd]; exact hK _ _ hS k)

end

/-- A list of values of several cells has one more. -/
theorem more_wide {w0 w1 wn : World} {ts : List Thing} {s n : Nat} {e : TypeId} {v vn : Value} {A : List (List Value)} {x : List Value} (h : Side w0 w1 (wideT s e v A :: ts)) (hx : x.length = s)
    (c : Chg v.ownBlock.toList w1 wn) (hn : n = A.length + 1) (ol : wn.ownsRow 0 e s vn n (A.flatten ++ x)) (nb : ∀ k, vn.ownBlock = some k → v.ownBlock = some k ∨ w1.heap.size ≤ k) :
    Side w0 wn (wideT s e vn (A ++ [x]) :: ts) := by
  have h0 : OwnW s w1 0 e v A := h.get 0 rfl
  refine h.turn c (fun k hk => .inl hk) (⟨h0.1.app (fun y hy => by rw [List.mem_singleton.1 hy]; exact hx), ?_⟩ : OwnW s wn 0 e vn (A ++ [x])) (fun k hk => ?_)
  · rw [List.length_append, List.length_singleton, ← hn, List.flatten_append, List.flatten_singleton]
    exact ol
  · have hk' : vn.ownBlock = some k := by simpa [wideT] using hk
    rcases nb k hk' with q | q
    · exact .inl (by show k ∈ v.ownBlock.toList; simp [q])
    · exact .inr q


structure PoolW (s : Nat) (w : World) (e : TypeId) (vs : Wides) : Prop where
  row : ∀ p ∈ vs, OwnW s w 0 e p.1 p.2
  apart : vs.Pairwise fun p q => ∀ g, p.1.ownBlock = some g → q.1.ownBlock ≠ some g

theorem blocksOf_cons (p : Value × List (List Value)) (vs : Wides) : blocksOf (p :: vs) = p.1.ownBlock.toList ++ blocksOf vs := by
  unfold blocksOf
  cases h : p.1.ownBlock <;> simp [h]

theorem blocksOf_app (a b : Wides) : blocksOf (a ++ b) = blocksOf a ++ blocksOf b := by simp [blocksOf]

def poolWT (s : Nat) (e : TypeId) (vs : Wides) : Thing where
  F := blocksOf vs
  P := fun w => PoolW s w e vs
  lt := fun w h k hk => by
    obtain ⟨j, v, xs, hj, hg⟩ := blocksOf_spec hk
    exact ((h.row _ (List.mem_of_getElem? hj)).lt k hg).2
  stays := fun w w' t h c hs => ⟨fun p hp => (h.row p hp).chg c (fun k hk => hs k (by
    obtain ⟨j, hj⟩ := List.mem_iff_getElem?.1 hp
    exact blocksOf_mem (v := p.1) (xs := p.2) hj hk)), h.apart⟩

theorem PoolW.nil (s : Nat) (w : World) (e : TypeId) : PoolW s w e [] := ⟨fun p hp => (by cases hp), List.Pairwise.nil⟩

/-- One more among them. -/
theorem Side.poolW {w0 w : World} {ts : List Thing} {s : Nat} {e : TypeId} {v : Value} {xs : List (List Value)} {vs : Wides} (h : Side w0 w (wideT s e v xs :: poolWT s e vs :: ts)) : Side w0 w (poolWT s e (vs ++ [(v, xs)]) :: ts) := by
  have ho : OwnW s w 0 e v xs := h.get 0 rfl
  have hp : PoolW s w e vs := h.get 1 rfl
  have hoff : ∀ k, v.ownBlock = some k → k ∉ blocksOf vs := fun k hk hm => (List.pairwise_cons.1 h.apart).1 _ List.mem_cons_self k (by simp [wideT, hk]) hm
  refine h.join (Chg.refl [] w) (fun k hk => by cases hk) ⟨fun p hp2 => ?_, ?_⟩ (fun k hk => ?_)
  · rcases List.mem_append.1 hp2 with q | q
    · exact hp.row p q
    · rw [List.mem_singleton.1 q]
      exact ho
  · refine List.pairwise_append.2 ⟨hp.apart, List.pairwise_singleton _ _, fun p hp2 q hq g hg hg2 => ?_⟩
    rw [List.mem_singleton.1 hq] at hg2
    obtain ⟨j, hj⟩ := List.mem_iff_getElem?.1 hp2
    exact hoff g hg2 (blocksOf_mem (v := p.1) (xs := p.2) hj hg)
  · have hk2 : k ∈ blocksOf (vs ++ [(v, xs)]) := hk
    rw [blocksOf_app] at hk2
    rcases List.mem_append.1 hk2 with q | q
    · exact .inr (.inl q)
    · rw [blocksOf_cons] at q
      rcases List.mem_append.1 q with q | q
      · exact .inl q
      · simp [blocksOf] at q

/-- Two pools put together. -/
theorem Side.poolJoin {w0 w : World} {ts : List Thing} {us vs : List (Value × List Value)} (h : Side w0 w (poolT us :: poolT vs :: ts)) : Side w0 w (poolT (vs ++ us) :: ts) := by
  have hu : Pool w us := h.get 0 rfl
  have hv : Pool w vs := h.get 1 rfl
  have hoff : ∀ k, k ∈ rowsOf us → k ∉ rowsOf vs := fun k hk hm => (List.pairwise_cons.1 h.apart).1 _ List.mem_cons_self k hk hm
  refine h.join (Chg.refl [] w) (fun k hk => by cases hk) ⟨fun p hp => ?_, ?_⟩ (fun k hk => ?_)
  · rcases List.mem_append.1 hp with q | q
    · exact hv.row p q
    · exact hu.row p q
  · refine List.pairwise_append.2 ⟨hv.apart, hu.apart, fun p hp q hq g hg hg2 => ?_⟩
    obtain ⟨j, hj⟩ := List.mem_iff_getElem?.1 hp
    obtain ⟨j2, hj2⟩ := List.mem_iff_getElem?.1 hq
    exact hoff g (rowsOf_mem (v := q.1) (xs := q.2) hj2 hg2) (rowsOf_mem (v := p.1) (xs := p.2) hj hg)
  · have hk2 : k ∈ rowsOf (vs ++ us) := hk
    rw [rowsOf_append] at hk2
    rcases List.mem_append.1 hk2 with q | q
    · exact .inr (.inl q)
    · exact .inl q

/-- A pool parted. -/
theorem Side.poolPart {w0 w : World} {ts : List Thing} {us vs : List (Value × List Value)} (h : Side w0 w (poolT (us ++ vs) :: ts)) : Side w0 w (poolT us :: poolT vs :: ts) := by
  have hp : Pool w (us ++ vs) := h.get 0 rfl
  obtain ⟨a1, a2, a3⟩ := List.pairwise_append.1 hp.apart
  refine Side.swap (olds := [poolT (us ++ vs)]) (bs := [poolT us, poolT vs]) h (Chg.refl [] w) (fun k hk => by cases hk) (fun b hb => ?_) (fun b hb k hk => ?_) (List.pairwise_cons.2 ⟨fun b hb k hk hm => ?_, List.pairwise_singleton _ _⟩)
  · rcases List.mem_cons.1 hb with rfl | hb
    · exact ⟨fun p hp2 => hp.row p (List.mem_append_left _ hp2), a1⟩
    · rw [List.mem_singleton.1 hb]
      exact ⟨fun p hp2 => hp.row p (List.mem_append_right _ hp2), a2⟩
  · refine .inl ⟨_, List.mem_singleton.2 rfl, ?_⟩
    show k ∈ rowsOf (us ++ vs)
    rw [rowsOf_append]
    rcases List.mem_cons.1 hb with rfl | hb
    · exact List.mem_append_left _ hk
    · rw [List.mem_singleton.1 hb] at hk
      exact List.mem_append_right _ hk
  · rw [List.mem_singleton.1 hb] at hm
    have hk : k ∈ rowsOf us := hk
    have hm : k ∈ rowsOf vs := hm
    obtain ⟨j, v, xs, hj, hg⟩ := rowsOf_spec hk
    obtain ⟨j2, v2, xs2, hj2, hg2⟩ := rowsOf_spec hm
    exact a3 _ (List.mem_of_getElem? hj) _ (List.mem_of_getElem? hj2) k hg hg2

/-- Things made since stand beside those that stood. -/
theorem Side.stack {w0 w w' : World} {ts us : List Thing} (h : Side w0 w ts) (k : Side w w' us) : Side w0 w' (us ++ ts) := by
  have h2 := h.quiet k.chg
  refine ⟨fun t ht => ?_, List.pairwise_append.2 ⟨k.apart, h.apart, fun a ha b hb g hg hg2 => ?_⟩, fun t ht g hg => ?_, h2.chg⟩
  · rcases List.mem_append.1 ht with q | q
    · exact k.each t q
    · exact h2.each t q
  · have h3 := k.new a ha g hg
    have h4 := b.lt w (h.each b hb) g hg2
    omega
  · rcases List.mem_append.1 ht with q | q
    · have := k.new t q g hg
      have := h.size
      omega
    · exact h.new t q g hg

/-- Its blocks are of cells. -/
def Solid (t : Thing) : Prop := ∀ W, t.P W → ∀ k ∈ t.F, ∃ o : Obj, W.heap[k]? = some o ∧ o.isCells = true

theorem solid_blk (g : Nat) (e : TypeId) (vs : List Value) : Solid (blkT g e vs) := fun W h k hk => by
  rw [List.mem_singleton.1 hk]
  exact ⟨_, h, rfl⟩

theorem owns_solid {W : World} {base : Nat} {e : TypeId} {s : Nat} {v : Value} {n : Nat} {xs : List Value} (h : W.ownsRow base e s v n xs) {k : Nat} (hk : v.ownBlock = some k) : ∃ o : Obj, W.heap[k]? = some o ∧ o.isCells = true := by
  rcases h.2 with ⟨rfl, _⟩ | ⟨g, cap, cur, rfl, _, hg, _⟩
  · simp [Value.ownBlock] at hk
  · obtain rfl : g = k := by simpa [Value.ownBlock] using hk
    exact ⟨_, hg, rfl⟩

theorem solid_wide (s : Nat) (e : TypeId) (v : Value) (xs : List (List Value)) : Solid (wideT s e v xs) := fun W h k hk => owns_solid h.2 (by simpa [wideT] using hk)

theorem solid_pool (vs : List (Value × List Value)) : Solid (poolT vs) := fun W h k hk => by
  obtain ⟨j, v, xs, hj, hg⟩ := rowsOf_spec hk
  obtain ⟨e, ho⟩ := h.row _ (List.mem_of_getElem? hj)
  exact owns_solid ho hg

theorem solid_poolW (s : Nat) (e : TypeId) (vs : Wides) : Solid (poolWT s e vs) := fun W h k hk => by
  obtain ⟨j, v, xs, hj, hg⟩ := blocksOf_spec hk
  exact owns_solid (h.row _ (List.mem_of_getElem? hj)).2 hg

/-- They stay while what is not of cells turns. -/
theorem Side.keep {w0 W W' : World} {ts : List Thing} {row : Option Nat} (h : Side w0 W ts) (hs : ∀ t ∈ ts, Solid t) (hg : W.grownBy W' row) (hr : ∀ r, row = some r → w0.heap.size ≤ r ∧ ∃ o : Obj, W.heap[r]? = some o ∧ o.isCells = false) : Side w0 W' ts := by
  have c : Chg row.toList W W' := chg_of_grown hg
  have off : ∀ t ∈ ts, ∀ k ∈ t.F, k ∉ row.toList := fun t ht k hk hm => by
    have e : row = some k := by simpa using hm
    obtain ⟨_, o, ho, hc⟩ := hr k e
    obtain ⟨o2, ho2, hc2⟩ := hs t ht W (h.each t ht) k hk
    rw [ho] at ho2
    obtain rfl := Option.some.inj ho2
    rw [hc] at hc2
    cases hc2
  exact ⟨fun t ht => t.stays W W' _ (h.each t ht) c (off t ht), h.apart, h.new, h.chg.fresh c (fun k hk => .inr (hr k (by simpa using hk)).1)⟩


/-- A list has more. -/
theorem more_wides {w0 w1 wn : World} {ts : List Thing} {s n : Nat} {e : TypeId} {v vn : Value} {A X : List (List Value)} (h : Side w0 w1 (wideT s e v A :: ts)) (hX : Slots s X)
    (c : Chg v.ownBlock.toList w1 wn) (hn : n = A.length + X.length) (ol : wn.ownsRow 0 e s vn n (A.flatten ++ X.flatten)) (nb : ∀ k, vn.ownBlock = some k → v.ownBlock = some k ∨ w1.heap.size ≤ k) :
    Side w0 wn (wideT s e vn (A ++ X) :: ts) := by
  have h0 : OwnW s w1 0 e v A := h.get 0 rfl
  refine h.turn c (fun k hk => .inl hk) (⟨h0.1.app hX, ?_⟩ : OwnW s wn 0 e vn (A ++ X)) (fun k hk => ?_)
  · rw [List.length_append, ← hn, List.flatten_append]
    exact ol
  · have hk' : vn.ownBlock = some k := by simpa [wideT] using hk
    rcases nb k hk' with q | q
    · exact .inl (by show k ∈ v.ownBlock.toList; simp [q])
    · exact .inr q

abbrev Rw := Value × List Value

def rwSlots (vs : List Rw) : List (List Value) := vs.map fun p => [p.1]

theorem rwSlots_flat (vs : List Rw) : (rwSlots vs).flatten = vs.map (·.1) := by
  induction vs with
  | nil => rfl
  | cons a l ih => simp [rwSlots] at ih ⊢; exact ih

theorem rwSlots_slots (vs : List Rw) : Slots 1 (rwSlots vs) := fun x hx => by
  obtain ⟨p, _, rfl⟩ := List.mem_map.1 hx
  rfl

/-- Rows that came out: the list, and each row. -/
def rowsTs (lv : Value) (vs : List Rw) : List Thing := [wideT 1 65 lv (rwSlots vs), poolT vs]

/-- Rows more. -/
theorem more_rows {w0 w1 wn : World} {n : Nat} {lv lvn : Value} {vs us : List Rw} (h : Side w0 w1 (poolT us :: rowsTs lv vs)) (c : Chg lv.ownBlock.toList w1 wn) (hn : n = vs.length + us.length) (ol : wn.ownsRow 0 65 1 lvn n (vs.map (·.1) ++ us.map (·.1))) (nb : ∀ k, lvn.ownBlock = some k → lv.ownBlock = some k ∨ w1.heap.size ≤ k) :
    Side w0 wn (rowsTs lvn (vs ++ us)) := by
  have h1 : Side w0 w1 (wideT 1 65 lv (rwSlots vs) :: poolT us :: poolT vs :: []) := h.front 1
  have h2 := more_wides (X := rwSlots us) h1 (rwSlots_slots us) c (by simp [rwSlots]; exact hn) (by rw [rwSlots_flat, rwSlots_flat]; exact ol) nb
  have h3 : Side w0 wn (poolT us :: poolT vs :: wideT 1 65 lvn (rwSlots vs ++ rwSlots us) :: []) := (h2.front 2).front 2
  have h4 := h3.poolJoin
  unfold rowsTs
  have e : rwSlots (vs ++ us) = rwSlots vs ++ rwSlots us := by simp [rwSlots]
  rw [e]
  exact h4.front 1

def pdOf (d : PtD) : Pd := ⟨d.m.toNat, d.r.toNat, nats d.d⟩

/-- A patch that is not refused. -/
structure PdIs (d : PtD) (p : Pd) : Prop where
  m : d.m = p.m
  r : d.r = p.r
  d : d.d = ints p.bs
  ok : Sc.PtOk p

theorem pdOf_is {d : PtD} (hb : By d.d) (hf : farP d = false) (hs : shortP d = false) : PdIs d (pdOf d) := by
  unfold farP at hf
  unfold shortP at hs
  have hf := of_decide_eq_false hf
  have hs := of_decide_eq_false hs
  refine ⟨?_, ?_, (ints_nats hb).symm, ?_, ?_, ?_, nats_bs hb⟩
  · show d.m = ((d.m.toNat : Nat) : Int); omega
  · show d.r = ((d.r.toNat : Nat) : Int); omega
  · show d.m.toNat ≤ 15; omega
  · show d.r.toNat ≤ 4095; omega
  · show (nats d.d).length = 128; rw [nats_length]; omega

/-- A batch that is not refused. -/
theorem scErr_zero {ep sq : Nat} {ds : List PtD} (h : scErr ep sq ds = 0) (hb : ∀ d ∈ ds, By d.d) : numsOk ep sq ∧ Sc.Good (ds.map pdOf) ∧ ∀ d ∈ ds, PdIs d (pdOf d) := by
  unfold scErr at h
  by_cases h1 : 1 ≤ ds.length ∧ ds.length ≤ 1023
  case neg => rw [if_neg h1] at h; cases h
  rw [if_pos h1] at h
  by_cases h2 : farN ep sq ∨ ds.any farP = true
  case pos => rw [if_pos h2] at h; cases h
  rw [if_neg h2] at h
  by_cases h3 : ds.any shortP = true
  case pos => rw [if_pos h3] at h; cases h
  have P : ∀ d ∈ ds, PdIs d (pdOf d) := fun d hd => pdOf_is (hb d hd) (by
    cases c : farP d with
    | false => rfl
    | true => exact absurd (.inr (List.any_eq_true.2 ⟨d, hd, c⟩)) h2) (by
    cases c : shortP d with
    | false => rfl
    | true => exact absurd (List.any_eq_true.2 ⟨d, hd, c⟩) h3)
  refine ⟨?_, ⟨by simpa using h1.1, by simpa using h1.2, fun p hp => ?_⟩, P⟩
  · have h4 : ¬ farN ep sq := fun k => h2 (.inl k)
    unfold farN at h4
    unfold numsOk
    omega
  · obtain ⟨d, hd, rfl⟩ := List.mem_map.1 hp
    exact (P d hd).ok

def SecGives (w : World) (ep sq : Nat) (l : List Pd) (e : Ending) (w' : World) : Prop := ∃ lv vs, e = .returned (.tuple #[lv, .int .u16 0]) ∧ Hid (vs.map (·.2) = (Sc.secs ep sq l).map ub) ∧ Hid (Side w w' (rowsTs lv vs))

theorem info_rowsl : (Tryz.prog.info? 65).map (fun i => (i.zero, i.size, i.bytes)) = some (some (.slice none 0 0), 1, 24) := by kernel_rfl

theorem pair_new2 (w : World) (x y : Value) (t : TypeId) : ∀ j u, [x, y][j]? = some u → (w.alloc (.cells #[x, y] t)).cell? ((⟨w.heap.size, 0, none⟩ : Addr).add j) = some u := by
  intro j u hj
  have := (Blk.made w [x, y] t).cell hj
  rw [Addr.add_lit]
  simpa using this

theorem rows_own {w : World} {lv : Value} {vs : List Rw} {n : Nat} (h : OwnW 1 w 0 65 lv (rwSlots vs)) (hn : vs.length = n) : w.ownsRow 0 65 1 lv n (vs.map (·.1)) := by
  have k := h.2
  rw [rwSlots_flat] at k
  rw [← hn]
  simpa [rwSlots] using k

theorem hdOf_rec_len (ep sq n k : Nat) (p : Pd) : (Sc.hdOf ep sq n k p).rec'.sector.length = 128 ∧ Bs (Sc.hdOf ep sq n k p).rec'.sector := ⟨Rec.sector_length (by show (6 : Nat) ≤ 25; decide), Rec.sector_bs _⟩

theorem hcat_bs (ep sq : Nat) (l : List Pd) (k : Nat) : Bs (Sc.hcat ep sq l k) := fun x hx => by
  obtain ⟨i, _, hi⟩ := List.mem_flatMap.1 hx
  exact (hdOf_rec_len _ _ _ _ _).2 x hi

theorem Side.rebase' {w w1 W : World} {ts : List Thing} (D : Chg [] w w1) (h : Side w1 W ts) : Side w W ts := ⟨h.each, h.apart, fun t ht k hk => Nat.le_trans D.size (h.new t ht k hk), D.trans h.chg⟩

def Cap (v : Value) : Prop := ∀ ao n c, v = .slice ao n c → n ≤ c

theorem owned_capd {w : World} {base : Nat} {e : TypeId} {size : Nat} {v : Value} {m : Nat} {xs : List Value} (h : w.ownsRow base e size v m xs) : Cap v := by
  rintro a n c rfl
  exact owned_cap h

set_option maxHeartbeats 8000000 in
set_option maxRecDepth 100000 in
theorem sectors_ok (ep sq : Nat) (v : Value) (ds : List PtD) (w : World) (h : Pts w v ds) (hb : ∀ d ∈ ds, By d.d ∧ Cap d.v) (h0 : scErr ep sq ds = 0) : Calls Tryz.prog 103 #[.int .u64 (ep : Int), .agg #[.int .u64 (sq : Int), v]] w (SecGives w ep sq (ds.map pdOf)) := by
  obtain ⟨i0, hi, hz0, hz1, hz2⟩ := info_parts info_rowsl
  replace hi := Lib.hid hi
  replace hz0 := Lib.hid hz0
  replace hz1 := Lib.hid hz1
  replace hz2 := Lib.hid hz2
  have CKC : Hid (∀ w', Chg [] w w' → Calls Tryz.prog 158 #[.int .u64 (ep : Int), .agg #[.int .u64 (sq : Int), v]] w' fun e w'' => e = .returned (.int .u16 0) ∧ Hid (Chg [] w' w'')) := fun w' c => by
    have k := check_any ep sq v ds w' (h.chg c)
    rw [h0] at k
    exact k
  obtain ⟨nums, good, is⟩ := scErr_zero h0 (fun d hd => (hb d hd).1)
  obtain ⟨ao, vc, rfl⟩ := h.slice
  have HP : Hid (∀ w', Chg [] w w' → Pts w' (.slice ao ds.length vc) ds) := fun w' c => h.chg c
  have HCAP : Hid (∀ d ∈ ds, Cap d.v) := fun d hd => (hb d hd).2
  obtain ⟨l, hl⟩ : ∃ l, l = ds.map pdOf := ⟨_, rfl⟩
  rw [← hl] at good ⊢
  have hll : l.length = ds.length := by rw [hl]; simp
  have IS : Hid (∀ i d, ds[i]? = some d → ∃ p, l[i]? = some p ∧ PdIs d p) := fun i d hd => ⟨pdOf d, by rw [hl, List.getElem?_map, hd]; rfl, is d (List.mem_of_getElem? hd)⟩
  have HLL := Lib.hid hll
  have GOOD := Lib.hid good
  have NUMS := Lib.hid nums
  have hn1 : ds.length ≤ 1023 := by rw [← hll]; exact good.2.1
  have hn0 : 1 ≤ ds.length := by rw [← hll]; exact good.1
  clear h hb h0 is hl hll good nums
  have W0 : Hid (∀ w', Chg [] (w.alloc (.cells #[.int .u64 (sq : Int), .slice ao ds.length vc] 92)) w' → w'.cell? ⟨w.heap.size, 0, none⟩ = some (.int .u64 (sq : Int)) ∧ w'.cell? ⟨w.heap.size, 1, none⟩ = some (.slice ao ds.length vc) ∧ Chg [] w w') := fun w' c =>
    ⟨((Blk.made w _ _).chg c (by simp)).cell (j := 0) rfl, ((Blk.made w _ _).chg c (by simp)).cell (j := 1) rfl, ((Chg.refl _ _).alloc _).trans c⟩
  obtain ⟨wb, hwb⟩ : ∃ wb, wb = (w.alloc (.cells #[.int .u64 (sq : Int), .slice ao ds.length vc] 92)) := ⟨_, rfl⟩
  rw [← hwb] at W0
  have CB : Hid (Chg [] w wb) := by rw [hwb]; exact (Chg.refl _ _).alloc _
  go_enter Tryz.func103, Tryz.ntmps103
  go_wp2_with fail
  rw [← hwb]
  refine (CKC.out _ CB.out).mono ?_
  rintro e w1 ⟨rfl, C1⟩
  obtain ⟨y0, y1, CW⟩ := W0.out _ C1.out
  have D0 : Hid (Side wb w1 (rowsTs (.slice none 0 0) [])) := by
    have h1 := (Side.nil C1.out).add (b := poolT []) (Chg.refl _ _) (Pool.nil _) (fun k hk => by cases hk)
    exact h1.add (b := wideT 1 65 (.slice none 0 0) []) (Chg.refl _ _) (OwnW.nil _ _ _ _) (fun k hk => by cases hk)
  clear hwb CKC CW
  obtain ⟨N, hN⟩ : ∃ N, N = ds.length := ⟨_, rfl⟩
  rw [← hN] at y1 hn0 hn1 HP HLL W0
  try rw [← hN]
  have HNN := Lib.hid hN
  clear hN
  go_wp2_with fail
  have EC : Hid (∀ W, Calls Tryz.prog 163 #[.agg #[.int .u64 (ep : Int), .int .u64 (sq : Int), .int .i64 (N : Int), .int .u32 (sum (Sc.hcat ep sq l N) : Nat)]] W (PcEncs W (Sc.cmOf ep sq N (Sc.hcat ep sq l N)).rec'.sector 0)) := fun W => by
    have ok : (Sc.cmOf ep sq N (Sc.hcat ep sq l N)).Ok := ⟨NUMS.out, by show (1 : Int) ≤ (N : Int); omega, by show (N : Int) ≤ 1023; omega⟩
    have m := encCm_any (Sc.cmOf ep sq N (Sc.hcat ep sq l N)) W (by show ep < _; have := NUMS.out.1; omega) (by show sq < _; have := NUMS.out.2.2; omega) (sum_lt_of (hcat_bs ep sq l N))
    have e1 : (Sc.cmOf ep sq N (Sc.hcat ep sq l N)).enc = (Sc.cmOf ep sq N (Sc.hcat ep sq l N)).rec'.sector := by unfold Cm.enc; rw [if_pos ok]
    have e2 : (Sc.cmOf ep sq N (Sc.hcat ep sq l N)).err = 0 := by unfold Cm.err; rw [if_pos ok]
    rw [e1, e2] at m
    exact m
  go_loopw [8, 9, 31] (fun a8 a9 i wr => ∃ (k : Nat) (vs : List Rw), k ≤ N ∧ i = .int .i64 k ∧ a9 = .int .u32 (sum (Sc.hcat ep sq l k) : Nat) ∧ Hid (vs.map (·.2) = (Sc.twos (Sc.hsec ep sq l) (fun i => escV (Sc.at' l i).bs) k).map ub) ∧ Hid (Side wb wr (rowsTs a8 vs))) (fun _ _ i _ => N - (intOf i).toNat)
  case atStart => exact ⟨0, [], Nat.zero_le _, rfl, (by rw [show sum (Sc.hcat ep sq l 0) = 0 from more_nil 0]; rfl), rfl, D0⟩
  case round =>
    obtain ⟨k, vs, hk, rfl, rfl, VS, H⟩ := hrel
    clear D0 C1 y0 y1
    obtain ⟨y0, y1, CW⟩ := W0.out _ H.out.chg
    replace CW := Lib.hid CW
    have LV : Hid (vs.length = 2 * k) := by have h := congrArg List.length VS.out; rw [List.length_map, List.length_map, Sc.twos_len] at h; exact h
    have OL8 := Lib.hid (show OwnW 1 wr 0 65 u8 (rwSlots vs) from H.out.get 0 rfl)
    obtain ⟨lo, lc, hlv⟩ := OL8.out.slice
    have hlv2 : u8 = .slice lo (2 * k) lc := by rw [hlv]; simp [rwSlots, LV.out]
    clear hlv
    subst hlv2
    by_cases hlt : k < N
    case neg =>
      obtain rfl : k = N := by omega
      have hge : ¬ (k : Int) < (k : Int) := by omega
      obtain ⟨s0, hs0⟩ : ∃ s0, s0 = sum (Sc.hcat ep sq l k) := ⟨_, rfl⟩
      rw [← hs0] at EC
      rw [← hs0]
      obtain ⟨CS, hCS⟩ : ∃ CS, CS = (Sc.cmOf ep sq k (Sc.hcat ep sq l k)).rec'.sector := ⟨_, rfl⟩
      rw [← hCS] at EC
      have hcl : CS.length = 128 := by rw [hCS]; exact Rec.sector_length (by show (2 : Nat) ≤ 25; decide)
      replace hCS := Lib.hid hCS
      have HCL := Lib.hid hcl
      clear hs0 hcl OL8
      go_wp2_with (first
        | (go_at_call 163; refine (EC.out _).mono ?_; rintro e w6 ⟨cv, rfl, OC, C6⟩; have H6 := Lib.hid (H.out.own OC.out C6.out); have OR : Hid (w6.ownsRow 0 65 1 (.slice lo (2 * k) lc) (2 * k) (vs.map (·.1))) := (rows_own (H6.out.get 1 rfl) LV.out); obtain ⟨co, cc, hcv⟩ := owns_slice OC.out; subst hcv; clear EC)
        | (with_reducible refine wpList_append_three _ rfl (.tmp 79) (.tmp 81) 43 rfl 0 65 i0 (.slice none 0 0) 1 24 Tryz.underlying43 hi.out hz0.out hz1.out hz2.out rfl (by decide) _ (2 * k) _ rfl (OR.out.alloc _) ⟨w6.heap.size, 0, none⟩ 1 1 [.slice co CS.length cc] rfl rfl (new_cell _ _ _) (by simp [Value.oneCell']) (by unfold maxLen; omega) (by omega) (Nat.zero_le _) ?_; intro lv' wn ol gr nb))
      go_ret2
      have CG : Chg (Value.slice lo (2 * k) lc).ownBlock.toList w6 wn := (((Chg.refl [] w6).alloc _).mono (by simp)).grown gr.out (fun j hj => .inl (by have hj2 : (Value.slice lo (2 * k) lc).ownBlock = some j := hj; rw [hj2]; simp))
      have P1 : Side wb w6 (poolT [(.slice co CS.length cc, ub CS)] :: rowsTs (.slice lo (2 * k) lc) vs) := by
        have h1 := H6.out.add (b := poolT []) (Chg.refl _ _) (Pool.nil _) (fun k hk => by cases hk)
        exact (h1.front 1 : Side wb w6 (ownT 5 (.slice co CS.length cc) (ub CS) :: poolT [] :: rowsTs (.slice lo (2 * k) lc) vs)).pool
      have H7 := more_rows P1 CG (by rw [LV.out]; rfl) ol.out (nb_of nb.out (by simp))
      refine ⟨lv', vs ++ [(.slice co CS.length cc, ub CS)], rfl, ?_, Side.rebase' CB.out H7⟩
      show _ = _
      rw [List.map_append, VS.out, Sc.secs, List.map_append, HLL.out, ← hCS.out]
      rfl
    obtain ⟨x, hx⟩ : ∃ x, ds[k]? = some x := ⟨_, List.getElem?_eq_getElem (by rw [← HNN.out]; exact hlt)⟩
    obtain ⟨p, hp, PI⟩ := IS.out k x hx
    obtain ⟨b, o, rfl, hbl, I⟩ := (HP.out _ CW.out).at hx
    have c0 := I.c0
    have c1 := I.c1
    have c2 := I.c2
    have hc := HCAP.out x (List.mem_of_getElem? hx)
    have sl := I.sl
    rw [PI.m] at c0
    rw [PI.r] at c1
    rw [PI.d] at sl
    have hpb : p.bs.length = 128 := PI.ok.2.2.1
    have hbs : Bs p.bs := PI.ok.2.2.2
    obtain ⟨xo, xc, hxv⟩ := sl.slice
    rw [ints_length, hpb] at hxv
    rw [hxv] at c2 sl hc
    have ESC : Hid (∀ W, Chg [] wr W → Calls Tryz.prog 159 #[.slice xo 128 xc] W (EscIs .u16 W p.bs)) := fun W c => escape_any _ p.bs W (sl.chgNil c) hbs (by rw [hpb]; decide) hc
    have AT : Hid (Sc.at' l k = p) := Sc.at'_eq hp
    have gl : (escV p.bs).length = 128 := esc_len hpb
    have gbs : Bs (escV p.bs) := esc_bs hpb hbs
    obtain ⟨g, hg⟩ : ∃ g, g = escV p.bs := ⟨_, rfl⟩
    obtain ⟨es, hes⟩ : ∃ es, es = escB p.bs := ⟨_, rfl⟩
    have hsg : Hid (Sc.hsec ep sq l k = (Sc.hdOf ep sq N k p).rec'.sector) := by show _ = _; unfold Sc.hsec; rw [AT.out, HLL.out]
    have HOK := Sc.hdOf_ok NUMS.out (show N ≤ 1023 by omega) hlt PI.ok
    have HSM : (Sc.hdOf ep sq N k p).sm < 4294967296 := Sc.hdOf_sum PI.ok
    have EH : Hid (∀ W, Calls Tryz.prog 160 #[.agg #[.int .u64 (ep : Int), .int .u64 (sq : Int), .int .i64 (k : Int), .int .i64 (N : Int), .int .i64 (p.m : Int), .int .i64 (p.r : Int), .bool es, .int .u32 (sum g : Nat)]] W (PcEncs W (Sc.hsec ep sq l k) 0)) := fun W => by
      have m := encHd_any (Sc.hdOf ep sq N k p) W (by show ep < _; have := NUMS.out.1; omega) (by show sq < _; have := NUMS.out.2.2; omega) HSM
      have e1 : (Sc.hdOf ep sq N k p).enc = Sc.hsec ep sq l k := by unfold Hd.enc; rw [if_pos HOK, hsg.out]
      have e2 : (Sc.hdOf ep sq N k p).err = 0 := by unfold Hd.err; rw [if_pos HOK]
      rw [e1, e2] at m
      rw [hes, hg]
      exact m
    rw [← hg] at gl gbs
    have EV : Hid (g = escV p.bs) := hg
    have EB : Hid (es = escB p.bs) := hes
    clear I hx hp PI hpb hbs sl hc hxv hg hes HOK HSM
    have hi0 : (0 : Int) ≤ k := Int.natCast_nonneg _
    have hi1 : (k : Int) < N := by omega
    go_wp2_with fail
    refine (ESC.out _ ((Chg.refl _ _).alloc _)).mono ?_
    rintro e w3 ⟨lg, rfl, OG, C3⟩
    have H3 := Lib.hid ((H.out.quiet ((Chg.refl _ _).alloc _)).own OG.out C3.out)
    have OG2 : Hid (w3.ownsRow 0 5 1 lg 128 (ub g)) := by
      have h := OG.out
      unfold RcOwn at h
      rw [← EV.out, gl] at h
      exact ownsRow_base h (Nat.zero_le _)
    obtain ⟨go', gc, hlg⟩ := owns_slice OG2.out
    subst hlg
    have GS : Hid (∀ W, Chg [] w3 W → Sl W (.slice go' 128 gc) (ints g)) := fun W c => (Sl.owned (show w3.ownsRow 0 5 1 (.slice go' 128 gc) 128 ((ints g).map (Value.int .u8)) from OG2.out)).chgNil c
    have KX : Hid (∀ W, Chg [] w3 W → W.cell? ⟨w.heap.size, 0, none⟩ = some (.int .u64 (sq : Int)) ∧ W.cell? ⟨wr.heap.size, 0, none⟩ = some (.int .i64 (p.m : Int)) ∧ W.cell? ⟨wr.heap.size, 1, none⟩ = some (.int .i64 (p.r : Int))) := fun W c =>
      ⟨(W0.out W (H3.out.chg.trans c)).1, (((Blk.made wr [.int .i64 (p.m : Int), .int .i64 (p.r : Int), .slice xo 128 xc] 105).chg C3.out (by simp)).chg c (by simp)).cell (j := 0) rfl, (((Blk.made wr [.int .i64 (p.m : Int), .int .i64 (p.r : Int), .slice xo 128 xc] 105).chg C3.out (by simp)).chg c (by simp)).cell (j := 1) rfl⟩
    have SU : Hid (∀ W, Chg [] w3 W → Calls Tryz.prog 161 #[.slice go' 128 gc] W fun e w' => e = .returned (.int .u32 (sum g : Nat)) ∧ Hid (Chg [] W w')) := fun W c => by
      have m := sum_any _ (ints g) W (GS.out W c) (ints_by gbs) (by rw [ints_length, gl]; decide)
      rw [nats_ints] at m
      exact m
    rw [← EV.out] at H3
    rw [← EB.out]
    clear OG OG2 ESC c0 c1 c2 C3 CW y0 y1 gl
    obtain ⟨er, her⟩ : ∃ er, er = escE p.bs := ⟨_, rfl⟩
    rw [← her]
    clear her
    obtain ⟨sg, hsgd⟩ : ∃ sg, sg = sum g := ⟨_, rfl⟩
    rw [← hsgd] at SU EH
    clear hsgd
    obtain ⟨z0, z1, z2⟩ := KX.out w3 (Chg.refl _ _)
    go_wp2_with fail
    go_region_held3 (fun w' : World => w'.cell? ⟨w.heap.size, 0, none⟩ = some (.int .u64 (sq : Int)) ∧ w'.cell? ⟨wr.heap.size, 0, none⟩ = some (.int .i64 (p.m : Int)) ∧ w'.cell? ⟨wr.heap.size, 1, none⟩ = some (.int .i64 (p.r : Int))) (first | exact ⟨z0, z1, z2⟩ | exact KX.out _ C5.out | exact KX.out _ C4.out) (first
      | (go_at_call 161; refine (SU.out _ (by first | exact Chg.refl _ _ | exact (Chg.refl _ _).drew | exact (Chg.refl _ _).drewN _)).mono ?_; rintro e w4 ⟨rfl, C4'⟩; have C4 : Hid (Chg [] w3 w4) := (by first | exact C4'.out | exact ((Chg.refl [] w3).drew).trans C4'.out | exact ((Chg.refl [] w3).drewN _).trans C4'.out); clear C4')
      | (go_at_call 160; refine (EH.out _).mono ?_; rintro e w5 ⟨hv, rfl, OH, C5'⟩; have C5 : Hid (Chg [] w3 w5) := C4.out.trans C5'.out))
    have H4 := Lib.hid (H3.out.quiet C4.out)
    have H5 := Lib.hid (H4.out.own OH.out C5'.out)
    obtain ⟨hs, hhs⟩ : ∃ hs, hs = Sc.hsec ep sq l k := ⟨_, rfl⟩
    rw [← hhs] at H5 OH
    have HHS := Lib.hid hhs
    have hl8 : hs.length = 128 := by rw [hhs, hsg.out]; exact (hdOf_rec_len _ _ _ _ _).1
    have hb8 : Bs hs := by rw [hhs, hsg.out]; exact (hdOf_rec_len _ _ _ _ _).2
    have OH2 : Hid (w5.ownsRow 0 5 1 hv 128 (ub hs)) := by
      have h := OH.out
      rw [hl8] at h
      exact ownsRow_base h (Nat.zero_le _)
    obtain ⟨ho, hc8, hhv⟩ := owns_slice OH2.out
    subst hhv
    have hsm : sum (Sc.hcat ep sq l k) < 4294967296 := sum_lt_of (hcat_bs ep sq l k)
    have MO : Hid (Calls Tryz.prog 162 #[.int .u32 (sum (Sc.hcat ep sq l k) : Nat), .slice ho 128 hc8] w5 fun e w' => e = .returned (.int .u32 (sum (Sc.hcat ep sq l (k + 1)) : Nat)) ∧ Hid (Chg [] w5 w')) := by
      have m := more_any (sum (Sc.hcat ep sq l k)) _ (ints hs) w5 hsm (Sl.owned (show w5.ownsRow 0 5 1 (.slice ho 128 hc8) 128 ((ints hs).map (Value.int .u8)) from OH2.out)) (ints_by hb8) (by rw [ints_length, hl8]; decide)
      rw [nats_ints] at m
      have e : more (sum (Sc.hcat ep sq l k)) hs = sum (Sc.hcat ep sq l (k + 1)) := by
        rw [Sc.hcat_succ, ← HHS.out]
        unfold sum
        rw [more_more]
      rw [e] at m
      exact m
    clear hhs hsm hb8 hl8 OH OH2 H3 H4 SU KX EH C4 C5 C5' GS z0 z1 z2 gbs OL8
    obtain ⟨s0, hs0⟩ : ∃ s0, s0 = sum (Sc.hcat ep sq l k) := ⟨_, rfl⟩
    rw [← hs0] at MO
    rw [← hs0]
    clear hs0
    obtain ⟨s1, hs1⟩ : ∃ s1, s1 = sum (Sc.hcat ep sq l (k + 1)) := ⟨_, rfl⟩
    rw [← hs1] at MO
    replace hs1 := Lib.hid hs1
    rename_i hHeld
    clear hHeld
    go_wp2_with (first
      | (go_at_call 162; refine MO.out.mono ?_; rintro e w6 ⟨rfl, C6⟩; have H6 := Lib.hid (H5.out.quiet C6.out); have OR : Hid (w6.ownsRow 0 65 1 (.slice lo (2 * k) lc) (2 * k) (vs.map (·.1))) := (rows_own (H6.out.get 2 rfl) LV.out); clear MO H5 C6)
      | (with_reducible refine wpList_append_three _ rfl (.tmp 63) (.tmp 66) 43 rfl 0 65 i0 (.slice none 0 0) 1 24 Tryz.underlying43 hi.out hz0.out hz1.out hz2.out rfl (by decide) _ (2 * k) _ rfl (OR.out.alloc _) ⟨w6.heap.size, 0, none⟩ 2 2 [.slice ho 128 hc8, .slice go' 128 gc] rfl rfl (pair_new2 _ _ _ _) (by simp [Value.oneCell']) (by unfold maxLen; omega) (by omega) (Nat.zero_le _) ?_; intro lv' wn ol gr nb))
    have CG : Hid (Chg (Value.slice lo (2 * k) lc).ownBlock.toList w6 wn) := (((Chg.refl [] w6).alloc _).mono (by simp)).grown gr.out (fun j hj => .inl (by have hj2 : (Value.slice lo (2 * k) lc).ownBlock = some j := hj; rw [hj2]; simp))
    obtain ⟨no, nc, hnv⟩ := owns_slice ol.out
    subst hnv
    have P2 : Side wb w6 (poolT [(.slice ho 128 hc8, ub hs), (.slice go' 128 gc, ub g)] :: rowsTs (.slice lo (2 * k) lc) vs) := by
      have h1 := H6.out.add (b := poolT []) (Chg.refl _ _) (Pool.nil _) (fun k hk => by cases hk)
      have h2 := (h1.front 1 : Side wb w6 (ownT 5 (.slice ho 128 hc8) (ub hs) :: poolT [] :: ownT 5 (.slice go' 128 gc) (ub g) :: rowsTs (.slice lo (2 * k) lc) vs)).pool
      exact (h2.front 1 : Side wb w6 (ownT 5 (.slice go' 128 gc) (ub g) :: poolT [(.slice ho 128 hc8, ub hs)] :: rowsTs (.slice lo (2 * k) lc) vs)).pool
    have H7 : Hid (Side wb wn (rowsTs (.slice no (2 * k + 2) nc) (vs ++ [(.slice ho 128 hc8, ub hs), (.slice go' 128 gc, ub g)]))) := more_rows P2 CG.out (by rw [LV.out]; rfl) ol.out (nb_of nb.out (by simp))
    have VS2 : Hid ((vs ++ [((.slice ho 128 hc8 : Value), ub hs), (.slice go' 128 gc, ub g)]).map (·.2) = (Sc.twos (Sc.hsec ep sq l) (fun i => escV (Sc.at' l i).bs) (k + 1)).map ub) := by
      show _ = _
      rw [List.map_append, VS.out, Sc.twos, List.map_append, HHS.out, AT.out, EV.out]
      rfl
    have e2 : 2 * k + 2 = 2 * (k + 1) := by omega
    rw [e2] at H7
    rw [e2]
    clear ol gr nb CG P2 H6 OR VS H e2
    go_wp2_with fail
    exact ⟨⟨k + 1, _, by omega, by go_num, by rw [hs1.out], VS2, H7⟩, by simp [intOf]; omega⟩

end Go.Proofs.YtaggfbgbmiifaaaGreat
