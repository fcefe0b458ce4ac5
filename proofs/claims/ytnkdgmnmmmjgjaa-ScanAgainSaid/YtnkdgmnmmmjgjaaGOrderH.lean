/-
  A region that draws its order, walked one operation at a time, a condition on the world held all along: what reads alone is taken first. No function of the program is named here. By an AI agent.
-/
import Derived.Test.YtnkdgmnmmmjgjaaGOrder
import Derived.Test.YtnkdgmnmmmjgjaaGArr
import Derived.Deep.RegionHeld3
namespace Go.Proofs.Ytnkdgmnmmmjgjaa
open Go.RowKit

/-- What a region leaves, said once for all its orders; no panic. -/
def cutQ (R : Act → World → Prop) : Exit → Act → World → Prop
  | .normal, a, w => R a w
  | _, _, _ => False

theorem region_cutQ {P : Program} {co : Code} {Q : Exit → Act → World → Prop} {a : Act} {w : World} (R : Act → World → Prop) (h1 : co.wp P (cutQ R) a w) (h2 : ∀ a' w', R a' w' → Q .normal a' w') : co.wp P Q a w :=
  Code.wp_mono (fun e a w h => by cases e <;> first | exact h2 _ _ h | exact (h : False).elim) h1

theorem wpH_start {P : Program} {ops ops' : Array Oper} {Q : Exit → Act → World → Prop} {S : World → Prop} {id n : Nat} {a : Act} {w : World} (hm : P.follows .mixedOrders = true) (h : ops' = ops) (hn : ops'.size = n)
    (k : wpAnyH P .any ops' Q S n (bitsOf n 0) a w.drew) : (Code.region id ops true).wp P Q a w := by
  subst h
  subst hn
  refine wp_region_held (S := S) hm ?_
  rw [bitsOf_zero] at k
  exact k

section
variable {P : Program} {md : Region.Mode} {ops : Array Oper} {R : Act → World → Prop} {S : World → Prop} {fuel : Nat} {listed : Array Bool} {a : Act} {w : World} {i : Nat} {op : Op}

/-- One that changes nothing, in every world that S allows. -/
theorem wpH_take {d : Tmp} {v : Value} {a' : Act} (h : OpIs ops i (some d) op) (hs : Region.noSelect ops = true) (hf : Region.free md ops listed i = true) (hr : (Region.ready md ops listed).contains i = true)
    (hrun : ∀ (ρ : Operand → Value), ρ = a.eval → ∀ o : Oper, o.op = op → ∀ w, S w → (execOp ρ o).run P w = .ok (.value v) w) (hS : S w)
    {l' : Array Bool} (hl : listed.setIfInBounds i true = l') (ha : a.put (some d) v = a') (k : wpAnyH P md ops (cutQ R) S fuel l' a' w) : wpAnyH P md ops (cutQ R) S (fuel + 1) listed a w := by
  obtain ⟨o, ho, hd, hop, hg⟩ := h.get
  subst hl
  subst ha
  rw [← hd] at k
  exact wpAnyH_take ho hs hf hr (fun _ _ _ h => h) (Or.inl ⟨wanted_plain hg _, fun w hw => hrun _ rfl o hop w hw⟩) hS k

theorem readyH_op {dst : Option Tmp} {rs : List Nat} (h : OpIs ops i dst op) {l' : Array Bool} (hl : listed.setIfInBounds i true = l')
    (k : ∀ (o : Oper) (K : Act → World → Prop), o.op = op → o.dst = dst → (∀ a w, S w → wpAnyH P md ops (cutQ R) S fuel l' a w → K a w) → Oper.wp P o a w K (cutQ R))
    (hs : AllReadyH P md ops (cutQ R) S fuel listed a w rs) : AllReadyH P md ops (cutQ R) S fuel listed a w (i :: rs) := by
  subst hl
  obtain ⟨o, ho, hd, hop, hg⟩ := h.get
  exact AllReadyH.cons ho (fun K hK => by rw [if_pos (wanted_plain hg _)]; exact k o K hop hd (fun a w hS hW => hK.out a w hS (fun _ => hW))) hs

/-- A call of a function of the program. -/
theorem readyH_call {d : Tmp} {rs : List Nat} {f : FuncId} {args : Array Operand} {ats : Array TypeId} {vs : Array Value} (h : OpIs ops i (some d) (.call { callee := .value (.func f), args := args, argTypes := ats }))
    (he : ∀ (vs : Array Value) (w : World), (callFunc f vs).run P w = .ok (.enter f vs) w) (hv : args.map a.eval = vs) {l' : Array Bool} (hl : listed.setIfInBounds i true = l')
    (hc : Calls P f vs w fun e w' => ∃ v a', e = .returned v ∧ S w' ∧ a.put (some d) v = a' ∧ wpAnyH P md ops (cutQ R) S fuel l' a' w')
    (hs : AllReadyH P md ops (cutQ R) S fuel listed a w rs) : AllReadyH P md ops (cutQ R) S fuel listed a w (i :: rs) := by
  refine readyH_op h hl (fun o K hop hd hK => ?_) hs
  have e : (execOp a.eval o).run P w = .ok (.enter f vs) w := by
    unfold execOp
    simp only [hop]
    simp [resolve, Deferred.ofValue, Act.eval, invoke, hv, he]
  unfold Oper.wp
  rw [e, Oper.upon_enter]
  refine hc.mono ?_
  rintro e w' ⟨v, a', rfl, hS, rfl, k⟩
  rw [hd]
  exact hK _ _ hS k

/-- A variable is made. -/
theorem readyH_alloc {d : Tmp} {rs : List Nat} {t : TypeId} {zs : List Value} (h : OpIs ops i (some d) (.alloc t))
    (hrun : (Instr.alloc t true (.tuple #[])).run P w = .ok (.pointer (some ⟨w.heap.size, 0, none⟩)) (w.alloc (.cells zs.toArray t))) {l' : Array Bool} (hl : listed.setIfInBounds i true = l') {a' : Act}
    (ha : a.put (some d) (.pointer (some ⟨w.heap.size, 0, none⟩)) = a') (hS : S (w.alloc (.cells zs.toArray t))) (k : wpAnyH P md ops (cutQ R) S fuel l' a' (w.alloc (.cells zs.toArray t)))
    (hs : AllReadyH P md ops (cutQ R) S fuel listed a w rs) : AllReadyH P md ops (cutQ R) S fuel listed a w (i :: rs) := by
  refine readyH_op h hl (fun o K hop hd hK => ?_) hs
  unfold Oper.wp execOp
  simp only [hop]
  simp [hrun]
  rw [Oper.upon_value, hd, ha]
  exact hK _ _ hS k

/-- A great value is stored. -/
theorem readyH_store {rs : List Nat} {t : TypeId} {x y : Operand} {g : Nat} {cs : List Value} (h : OpIs ops i none (.store t x y)) (hx : a.eval x = .pointer (some ⟨g, 0, none⟩)) (hy : a.eval y = .agg cs.toArray)
    (ht : w.there g 0 cs.length) (hi : (P.info? t).map (·.size) = some cs.length) (h1 : ∀ v ∈ cs, v.oneCell' = true) {l' : Array Bool} (hl : listed.setIfInBounds i true = l')
    (hS : S (w.setCells g 0 cs)) (k : wpAnyH P md ops (cutQ R) S fuel l' a (w.setCells g 0 cs))
    (hs : AllReadyH P md ops (cutQ R) S fuel listed a w rs) : AllReadyH P md ops (cutQ R) S fuel listed a w (i :: rs) := by
  refine readyH_op h hl (fun o K hop hd hK => ?_) hs
  have hr := run_storeAt_mid (P := P) w g 0 t cs.toArray (by simpa using ht) (by simpa using hi) (all_oneCell_toArray h1)
  unfold Oper.wp execOp
  simp only [hop, hx, hy]
  simp [hr]
  first
    | (rw [Oper.upon_skip, hd]; exact hK _ _ hS k)
    | (unfold Oper.upon; simp [hd]; exact hK _ _ hS k)

end

theorem runH_move {P : Program} {S : World → Prop} {a : Act} {x : Operand} {v : Value} (hx : a.eval x = v) : ∀ (ρ : Operand → Value), ρ = a.eval → ∀ o : Oper, o.op = .move x → ∀ w, S w → (execOp ρ o).run P w = .ok (.value v) w := by
  intro ρ hρ o ho w _
  subst hρ
  exact run_move_at _ hx o ho w

theorem runH_convert {P : Program} {S : World → Prop} {a : Act} {s d : TypeId} {x : Operand} {u v : Value} (hx : a.eval x = u) (h : ∀ w, (convert s d u).run P w = .ok v w) : ∀ (ρ : Operand → Value), ρ = a.eval → ∀ o : Oper, o.op = .convert s d x → ∀ w, S w → (execOp ρ o).run P w = .ok (.value v) w := by
  intro ρ hρ o ho w _
  subst hρ
  unfold execOp
  simp only [ho, hx]
  simp [h]

theorem runH_index {P : Program} {S : World → Prop} {a : Act} {t : TypeId} {x y : Operand} {u i v : Value} (hx : a.eval x = u) (hy : a.eval y = i) (h : ∀ w, (Instr.indexAt t u i).run P w = .ok v w) : ∀ (ρ : Operand → Value), ρ = a.eval → ∀ o : Oper, o.op = .indexAddr t x y → ∀ w, S w → (execOp ρ o).run P w = .ok (.value v) w := by
  intro ρ hρ o ho w _
  subst hρ
  unfold execOp
  simp only [ho, hx, hy]
  simp [h]

theorem runH_load {P : Program} {S : World → Prop} {a : Act} {t : TypeId} {x : Operand} {u v : Value} (hx : a.eval x = u) (h : ∀ w, S w → (Instr.loadAt t u).run P w = .ok v w) : ∀ (ρ : Operand → Value), ρ = a.eval → ∀ o : Oper, o.op = .load t x → ∀ w, S w → (execOp ρ o).run P w = .ok (.value v) w := by
  intro ρ hρ o ho w hw
  subst hρ
  unfold execOp
  simp only [ho, hx]
  simp [h w hw]

theorem runH_bin {P : Program} {S : World → Prop} {a : Act} {b : BinOp} {t t2 : TypeId} {x y : Operand} {u u2 v : Value} (hx : a.eval x = u) (hy : a.eval y = u2) (h : ∀ w, (do eqGuard b t x y u u2; binOp b t u u2).run P w = .ok v w) : ∀ (ρ : Operand → Value), ρ = a.eval → ∀ o : Oper, o.op = .binOp b t x y t2 → ∀ w, S w → (execOp ρ o).run P w = .ok (.value v) w := by
  intro ρ hρ o ho w _
  subst hρ
  have h2 := h w
  unfold execOp
  simp only [ho, hx, hy]
  simp only [Sem.run_bind] at h2 ⊢
  rw [h2]
  simp

theorem runH_build {P : Program} {S : World → Prop} {a : Act} {t : TypeId} {parts : Array (Nat × Operand)} {vs : Array (Nat × Value)} {v : Value} (hx : parts.map (fun p => (p.1, a.eval p.2)) = vs) (h : ∀ w, (Instr.build t vs).run P w = .ok v w) : ∀ (ρ : Operand → Value), ρ = a.eval → ∀ o : Oper, o.op = .build t parts → ∀ w, S w → (execOp ρ o).run P w = .ok (.value v) w := by
  intro ρ hρ o ho w _
  subst hρ
  subst hx
  unfold execOp
  simp only [ho]
  simp [h]

end Go.Proofs.Ytnkdgmnmmmjgjaa
