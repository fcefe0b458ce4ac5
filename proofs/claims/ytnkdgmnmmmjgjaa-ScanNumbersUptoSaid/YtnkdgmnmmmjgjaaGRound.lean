/-
  A region that draws its order, in a round of a range over a function: walked as outside of it. No function of the program is named here. By an AI agent.
-/
import Derived.Test.YtnkdgmnmmmjgjaaGOrderH
import Derived.RangeFuncCalls
import Derived.OrdersIn
namespace Go.Proofs.Ytnkdgmnmmmjgjaa
open Go.RowKit

/-- A body's region of a number. -/
def regAt (n : Nat) : Code → Option (Array Oper)
  | .region id ops _ => if id = n then some ops else none
  | .seq a b => (regAt n a).or (regAt n b)
  | .block _ c => regAt n c
  | .loop c => regAt n c
  | .scope c => regAt n c
  | .cond _ a b => (regAt n a).or (regAt n b)
  | .rangeFunc _ _ a b => (regAt n a).or (regAt n b)
  | _ => none

def regOf (f : Func) (n : Nat) : Array Oper := (f.body.bind (regAt n)).getD #[]

/-- An operation that neither defers nor asks a row. -/
def tame (o : Oper) : Bool := match o.op with
  | .defer _ => false
  | _ => true

theorem oper_round {P : Program} {o : Oper} {a : Act} {w : World} {K K' : Act → World → Prop} {R : Act → World → Prop} {Q : Exit → Act → World → Prop} (l n : Nat) (ht : tame o = true) (h : Oper.wp P o a w K (cutQ R)) (hk : ∀ a w, K a w → K' a w) :
    Oper.wpIn (Fence.wide.inRound l) n P o a w K' Q := by
  have hd : ∀ c, o.op ≠ .defer c := fun c e => by unfold tame at ht; rw [e] at ht; cases ht
  unfold Oper.wp at h
  refine ⟨fun f _ => trivial, ?_⟩
  rw [Fence.inRound_round, Oper.semAt_some l _ _ hd]
  generalize (execOp a.eval o).run P w = r at h ⊢
  cases r with
  | ok x w' =>
    cases x with
    | value v => exact hk _ _ h
    | skip => exact hk _ _ h
    | defer d => exact hk _ _ h
    | enter f args =>
      refine ⟨fun k => (by cases k), CallsIn.inRound l (callsIn_wide.2 ?_)⟩
      refine Calls.mono h ?_
      rintro e w'' he
      cases e with
      | returned v => exact hk _ _ he
      | panicked c => exact (he : False).elim
      | outgrown => obtain ⟨a1, w1, q⟩ := he; exact (q : False).elim
    | row r args =>
      refine ⟨fun k => (by cases k), fun c cs _ => ?_⟩
      obtain ⟨v, w2, q, st⟩ := h c cs
      exact ⟨v, w2, hk _ _ q, stepsIn_wide.2 st⟩
    | _ => exact (h : False).elim
  | halt x w' => cases x <;> exact (h : False).elim

theorem any_round {P : Program} {md : Region.Mode} {ops : Array Oper} {R : Act → World → Prop} {Q : Exit → Act → World → Prop} (l n : Nat) (ht : ops.all tame = true) (hQ : ∀ a w, R a w → Q .normal a w) :
    ∀ (fuel : Nat) (listed : Array Bool) (a : Act) (w : World), wpAny P md ops (cutQ R) fuel listed a w → wpAnyIn (Fence.wide.inRound l) n P md ops Q fuel listed a w
  | 0, _, _, _, h => ⟨h.1, hQ _ _ h.2⟩
  | fuel + 1, listed, a, w, h => by
    refine ⟨fun k => hQ _ _ (h.1 k), fun i hi => ?_⟩
    have hs := h.2 i hi
    unfold wpOp at hs
    unfold wpOpIn
    cases ho : ops[i]? with
    | none =>
      simp only [ho] at hs
      exact any_round l n ht hQ fuel _ _ _ hs
    | some o =>
      simp only [ho] at hs
      have to : tame o = true := by
        obtain ⟨hi2, e⟩ := Array.getElem?_eq_some_iff.1 ho
        rw [← e]
        exact (Array.all_eq_true.1 ht) i hi2
      by_cases c : Region.wanted o (yielded ops a.tmps) = true
      · simp only [c, if_true] at hs ⊢
        rcases hs with hs | ⟨_, ⟨a1, w1, q⟩⟩
        · exact oper_round l n to hs fun a w q => any_round l n ht hQ fuel _ _ _ q
        · exact (q : False).elim
      · simp only [c, Bool.false_eq_true, if_false] at hs ⊢
        exact ⟨fun f _ => trivial, any_round l n ht hQ fuel _ _ _ hs⟩

/-- What a region leaves, said once for all its orders, in a round too. -/
theorem region_round {P : Program} {ops ops' : Array Oper} {R : Act → World → Prop} {Q : Exit → Act → World → Prop} {id m n l : Nat} {a : Act} {w : World} (hm : P.follows .mixedOrders = true) (h : ops' = ops) (hn : ops'.size = m) (ht : ops'.all tame = true)
    (k : ∃ S, wpAnyH P .any ops' (cutQ R) S m (bitsOf m 0) a w.drew) (hQ : ∀ a w, R a w → Q .normal a w) : (Code.region id ops true).wpIn (Fence.wide.inRound l) n P Q a w := by
  subst h
  subst hn
  obtain ⟨S, k⟩ := k
  refine wpIn_region_any hm ?_
  rw [bitsOf_zero] at k
  exact any_round l n ht hQ _ _ _ _ (wpAny_of_held _ _ _ _ k)

end Go.Proofs.Ytnkdgmnmmmjgjaa
