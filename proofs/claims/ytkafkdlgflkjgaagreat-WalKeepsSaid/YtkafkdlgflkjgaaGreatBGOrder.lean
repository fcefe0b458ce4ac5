/-
  A region that draws its order, walked one operation at a time: what an operation is, is asked of the region's array alone, which is named and not written out. No function of the program is named here. By an AI agent.
-/
import Derived.Test.YtkafkdlgflkjgaaGreatBG
import Derived.RegionTactic
import Derived.Test.YtkafkdlgflkjgaaGreatBGOwnMem
import Derived.Deep.RegionHeld3
namespace Go.Proofs.YtkafkdlgflkjgaaGreat
open Go.RowKit

/-- Which of n operations have come up, as the bits of a number. -/
def bitsOf (n m : Nat) : Array Bool := ((List.range n).map fun i => m.testBit i).toArray

theorem bitsOf_zero (n : Nat) : bitsOf n 0 = Array.replicate n false := by
 unfold bitsOf
 rw [← List.toArray_replicate]
 congr 1
 rw [List.eq_replicate_iff]
 refine ⟨by simp, fun b hb => ?_⟩
 obtain ⟨i, _, rfl⟩ := List.mem_map.1 hb
 exact Nat.zero_testBit i

/-- Operation i is op, writes slot d, and has no guard. -/
def OpIs (ops : Array Oper) (i : Nat) (d : Option Tmp) (op : Op) : Prop := (ops[i]?).map (fun o => (o.dst, o.op, o.guard)) = some (d, op, none)

theorem OpIs.get {ops : Array Oper} {i : Nat} {d : Option Tmp} {op : Op} (h : OpIs ops i d op) : ∃ o, ops[i]? = some o ∧ o.dst = d ∧ o.op = op ∧ o.guard = none := by
 unfold OpIs at h
 cases ho : ops[i]? with
 | none => rw [ho] at h; cases h
 | some o =>
   rw [ho] at h
   simp only [Option.map_some, Option.some.injEq, Prod.mk.injEq] at h
   exact ⟨o, rfl, h.1, h.2.1, h.2.2⟩

section
variable {P : Program} {md : Region.Mode} {ops : Array Oper} {Q : Exit → Act → World → Prop} {fuel : Nat} {listed : Array Bool} {a : Act} {w : World} {i : Nat} {d : Tmp} {op : Op}

theorem wanted_plain {o : Oper} (h : o.guard = none) (y : Nat → Option Bool) : Region.wanted o y = true := by unfold Region.wanted; rw [h]

theorem run_nil_at {x : Operand} {p : Addr} (ρ : Operand → Value) (hx : ρ x = .pointer (some p)) (o : Oper) (ho : o.op = .nilCheck x) (w : World) : (execOp ρ o).run P w = .ok (.value (.pointer (some p))) w := by
 unfold execOp
 simp only [ho, hx]
 simp

theorem run_field_at {x : Operand} {t : TypeId} {k : Nat} {u v : Value} (ρ : Operand → Value) (hx : ρ x = u) (hf : ∀ w : World, (Instr.fieldAt t u k).run P w = .ok v w) (o : Oper) (ho : o.op = .fieldAddr t x k) (w : World) :
 (execOp ρ o).run P w = .ok (.value v) w := by
 unfold execOp
 simp only [ho, hx]
 simp [hf]

end
end Go.Proofs.YtkafkdlgflkjgaaGreat
namespace Go.Proofs.YtkafkdlgflkjgaaGreat
open Go.RowKit

/-- What a region leaves, said once for all its orders; no panic. -/
def cutQ (R : Act → World → Prop) : Exit → Act → World → Prop
 | .normal, a, w => R a w
 | _, _, _ => False

section
variable {P : Program} {md : Region.Mode} {ops : Array Oper} {R : Act → World → Prop} {S : World → Prop} {fuel : Nat} {listed : Array Bool} {a : Act} {w : World} {i : Nat} {op : Op}

/-- One that changes nothing, in every world that S allows. -/
theorem wpH_take {d : Tmp} {v : Value} {a' : Act} (h : OpIs ops i (some d) op) (hs : Region.noSelect ops = true) (hf : Region.free md ops listed i = true) (hr : (Region.ready md ops listed).contains i = true)
 (hrun : ∀ (ρ : Operand → Value), ρ = a.eval → ∀ o : Oper, o.op = op → ∀ w, S w → (execOp ρ o).run P w = .ok (.value v) w) (hS : S w)
 {l' : Array Bool} (hl : listed.setIfInBounds i true = l') (ha : a.put (some d) v = a') (k : wpAnyH P md ops (cutQ R) S fuel l' a' w) : wpAnyH P md ops (cutQ R) S (fuel + 1) listed a w := by
 obtain ⟨o, ho, hd, hop, hg⟩ := h.get
 subst hl
 subst ha
 rw [← hd] at k
 exact wpAnyH_take ho hs hf hr (fun _ _ _ h => h) (Or.inl ⟨wanted_plain hg _, fun w hw => hrun _ rfl o hop w hw⟩) hS k

theorem readyH_op {dst : Option Tmp} {rs : List Nat} (h : OpIs ops i dst op) {l' : Array Bool} (hl : listed.setIfInBounds i true = l')
 (k : ∀ (o : Oper) (K : Act → World → Prop), o.op = op → o.dst = dst → (∀ a w, S w → wpAnyH P md ops (cutQ R) S fuel l' a w → K a w) → Oper.wp P o a w K (cutQ R))
 (hs : AllReadyH P md ops (cutQ R) S fuel listed a w rs) : AllReadyH P md ops (cutQ R) S fuel listed a w (i :: rs) := by
 subst hl
 obtain ⟨o, ho, hd, hop, hg⟩ := h.get
 exact AllReadyH.cons ho (fun K hK => by rw [if_pos (wanted_plain hg _)]; exact k o K hop hd (fun a w hS hW => hK.out a w hS (fun _ => hW))) hs

end

theorem runH_load {P : Program} {S : World → Prop} {a : Act} {t : TypeId} {x : Operand} {u v : Value} (hx : a.eval x = u) (h : ∀ w, S w → (Instr.loadAt t u).run P w = .ok v w) : ∀ (ρ : Operand → Value), ρ = a.eval → ∀ o : Oper, o.op = .load t x → ∀ w, S w → (execOp ρ o).run P w = .ok (.value v) w := by
 intro ρ hρ o ho w hw
 subst hρ
 unfold execOp
 simp only [ho, hx]
 simp [h w hw]

theorem runH_bin {P : Program} {S : World → Prop} {a : Act} {b : BinOp} {t t2 : TypeId} {x y : Operand} {u u2 v : Value} (hx : a.eval x = u) (hy : a.eval y = u2) (h : ∀ w, (do eqGuard b t x y u u2; binOp b t u u2).run P w = .ok v w) : ∀ (ρ : Operand → Value), ρ = a.eval → ∀ o : Oper, o.op = .binOp b t x y t2 → ∀ w, S w → (execOp ρ o).run P w = .ok (.value v) w := by
 intro ρ hρ o ho w _
 subst hρ
 have h2 := h w
 unfold execOp
 simp only [ho, hx, hy]
 simp only [Sem.run_bind] at h2 ⊢
 rw [h2]
 simp

theorem runH_build {P : Program} {S : World → Prop} {a : Act} {t : TypeId} {parts : Array (Nat × Operand)} {vs : Array (Nat × Value)} {v : Value} (hx : parts.map (fun p => (p.1, a.eval p.2)) = vs) (h : ∀ w, (Instr.build t vs).run P w = .ok v w) : ∀ (ρ : Operand → Value), ρ = a.eval → ∀ o : Oper, o.op = .build t parts → ∀ w, S w → (execOp ρ o).run P w = .ok (.value v) w := by
 intro ρ hρ o ho w _
 subst hρ
 subst hx
 unfold execOp
 simp only [ho]
 simp [h]

end Go.Proofs.YtkafkdlgflkjgaaGreat
