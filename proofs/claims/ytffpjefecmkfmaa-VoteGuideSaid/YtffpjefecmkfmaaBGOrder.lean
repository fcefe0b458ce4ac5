/-
  A region that draws its order, walked one operation at a time: what an operation is, is asked of the region's array alone, which is named and not written out. No function of the program is named here. By an AI agent.
-/
import Derived.Test.YtffpjefecmkfmaaBG
import Derived.RegionTactic
import Derived.Test.YtffpjefecmkfmaaBGArr
import Derived.Deep.RegionHeld3
namespace Go.Proofs.Ytffpjefecmkfmaa
open Go.RowKit

/-- A body's operations of the first region that draws its order. -/
def drawnOps : Code → Option (Array Oper)
  | .region _ ops true => some ops
  | .seq a b => (drawnOps a).or (drawnOps b)
  | _ => none

def opsOf (f : Func) : Array Oper := match f.body with
  | some b => (drawnOps b).getD #[]
  | none => #[]

/-- Which of n operations have come up, as the bits of a number. -/
def bitsOf (n m : Nat) : Array Bool := ((List.range n).map fun i => m.testBit i).toArray

theorem bitsOf_zero (n : Nat) : bitsOf n 0 = Array.replicate n false := by
  unfold bitsOf
  rw [← List.toArray_replicate]
  congr 1
  rw [List.eq_replicate_iff]
  refine ⟨by simp, fun b hb => ?_⟩
  obtain ⟨i, _, rfl⟩ := List.mem_map.1 hb
  exact Nat.zero_testBit i

/-- The walk begins. -/
theorem wp_region_start {P : Program} {ops ops' : Array Oper} {Q : Exit → Act → World → Prop} {id n : Nat} {a : Act} {w : World} (hm : P.follows .mixedOrders = true) (h : ops' = ops) (hn : ops'.size = n)
    (k : wpAny P .any ops' Q n (bitsOf n 0) a w.drew) : (Code.region id ops true).wp P Q a w := by
  subst h
  subst hn
  refine wp_region_any hm ?_
  rw [bitsOf_zero] at k
  exact k

/-- Operation i is op, writes slot d, and has no guard. -/
def OpIs (ops : Array Oper) (i : Nat) (d : Option Tmp) (op : Op) : Prop := (ops[i]?).map (fun o => (o.dst, o.op, o.guard)) = some (d, op, none)

theorem OpIs.get {ops : Array Oper} {i : Nat} {d : Option Tmp} {op : Op} (h : OpIs ops i d op) : ∃ o, ops[i]? = some o ∧ o.dst = d ∧ o.op = op ∧ o.guard = none := by
  unfold OpIs at h
  cases ho : ops[i]? with
  | none => rw [ho] at h; cases h
  | some o =>
    rw [ho] at h
    simp only [Option.map_some, Option.some.injEq, Prod.mk.injEq] at h
    exact ⟨o, rfl, h.1, h.2.1, h.2.2⟩

section
variable {P : Program} {md : Region.Mode} {ops : Array Oper} {Q : Exit → Act → World → Prop} {fuel : Nat} {listed : Array Bool} {a : Act} {w : World} {i : Nat} {d : Tmp} {op : Op}

theorem wanted_plain {o : Oper} (h : o.guard = none) (y : Nat → Option Bool) : Region.wanted o y = true := by unfold Region.wanted; rw [h]

/-- One that looks at no memory. -/
theorem wpAny_pure {v : Value} (h : OpIs ops i (some d) op) (hs : Region.noSelect ops = true) (hf : Region.free md ops listed i = true) (hr : (Region.ready md ops listed).contains i = true)
    (hQ : ∀ c a w, Q (.panic c) (a.put (some d) v) w → Q (.panic c) a w) (hrun : ∀ (ρ : Operand → Value), ρ = a.eval → ∀ o : Oper, o.op = op → ∀ w, (execOp ρ o).run P w = .ok (.value v) w)
    {l' : Array Bool} (hl : listed.setIfInBounds i true = l') (k : wpAny P md ops Q fuel l' (a.put (some d) v) w) : wpAny P md ops Q (fuel + 1) listed a w := by
  obtain ⟨o, ho, hd, hop, hg⟩ := h.get
  subst hl
  rw [← hd] at hQ k
  exact wpAny_take ho hs hf hr hQ (Or.inl ⟨wanted_plain hg _, hrun _ rfl o hop⟩) k

/-- One that is carried out where it comes up. -/
theorem allReady_op {rs : List Nat} (h : OpIs ops i (some d) op) {l' : Array Bool} (hl : listed.setIfInBounds i true = l') (k : ∀ (o : Oper) (K : Act → World → Prop), o.op = op → o.dst = some d → (∀ a w, wpAny P md ops Q fuel l' a w → K a w) → Oper.wp P o a w K Q)
    (hs : AllReady P md ops Q fuel listed a w rs) : AllReady P md ops Q fuel listed a w (i :: rs) := by
  subst hl
  obtain ⟨o, ho, hd, hop, hg⟩ := h.get
  exact AllReady.cons ho (fun K hK => by rw [if_pos (wanted_plain hg _)]; exact k o K hop hd hK) hs

/-- A call of a function of the program. -/
theorem allReady_call {rs : List Nat} {f : FuncId} {args : Array Operand} {ats : Array TypeId} {vs : Array Value} (h : OpIs ops i (some d) (.call { callee := .value (.func f), args := args, argTypes := ats }))
    (he : ∀ (vs : Array Value) (w : World), (callFunc f vs).run P w = .ok (.enter f vs) w) (hv : args.map a.eval = vs) {l' : Array Bool} (hl : listed.setIfInBounds i true = l')
    (hc : Calls P f vs w fun e w' => ∃ v, e = .returned v ∧ wpAny P md ops Q fuel l' (a.put (some d) v) w')
    (hs : AllReady P md ops Q fuel listed a w rs) : AllReady P md ops Q fuel listed a w (i :: rs) := by
  refine allReady_op h hl (fun o K hop hd hK => ?_) hs
  have e : (execOp a.eval o).run P w = .ok (.enter f vs) w := by
    unfold execOp
    simp only [hop]
    simp [resolve, Deferred.ofValue, Act.eval, invoke, hv, he]
  unfold Oper.wp
  rw [e, Oper.upon_enter]
  refine hc.mono ?_
  rintro e w' ⟨v, rfl, k⟩
  rw [hd]
  exact hK _ _ k

theorem run_move_at {x : Operand} {v : Value} (ρ : Operand → Value) (hx : ρ x = v) (o : Oper) (ho : o.op = .move x) (w : World) : (execOp ρ o).run P w = .ok (.value v) w := by
  unfold execOp
  rw [ho]
  simp [hx]

theorem run_assign_at {x : Operand} {v : Value} (ρ : Operand → Value) (hx : ρ x = v) (o : Oper) (ho : o.op = .assign x) (w : World) : (execOp ρ o).run P w = .ok (.value v) w := by
  unfold execOp
  rw [ho]
  simp [hx]

theorem run_nil_at {x : Operand} {p : Addr} (ρ : Operand → Value) (hx : ρ x = .pointer (some p)) (o : Oper) (ho : o.op = .nilCheck x) (w : World) : (execOp ρ o).run P w = .ok (.value (.pointer (some p))) w := by
  unfold execOp
  simp only [ho, hx]
  simp

theorem run_field_at {x : Operand} {t : TypeId} {k : Nat} {u v : Value} (ρ : Operand → Value) (hx : ρ x = u) (hf : ∀ w : World, (Instr.fieldAt t u k).run P w = .ok v w) (o : Oper) (ho : o.op = .fieldAddr t x k) (w : World) :
    (execOp ρ o).run P w = .ok (.value v) w := by
  unfold execOp
  simp only [ho, hx]
  simp [hf]

theorem run_whole_at {x : Operand} {t : TypeId} {u v : Value} (ρ : Operand → Value) (hx : ρ x = u) (hf : ∀ w : World, (Instr.sliceAt t u none none none).run P w = .ok v w) (o : Oper) (ho : o.op = .slice t x none none none) (w : World) :
    (execOp ρ o).run P w = .ok (.value v) w := by
  unfold execOp
  simp only [ho, hx]
  simp [hf]

/-- A slice literal. -/
theorem allReady_literal {rs : List Nat} {t : TypeId} {n : Nat} {parts : Array (Nat × Operand)} {vs : Array (Nat × Value)} {e : TypeId} {cs : List Value} (h : OpIs ops i (some d) (.buildSlice t n parts)) (hv : parts.map (fun p => (p.1, a.eval p.2)) = vs)
    (hrun : (Instr.buildSlice t n vs).run P w = .ok (.slice (some ⟨w.heap.size, 0, none⟩) n n) (w.alloc (.cells cs.toArray e))) {l' : Array Bool} (hl : listed.setIfInBounds i true = l')
    (k : ∀ (w' : World) (g : Nat), Hid (Blk w' g e cs) → Hid (Chg [] w w') → w.heap.size ≤ g → wpAny P md ops Q fuel l' (a.put (some d) (.slice (some ⟨g, 0, none⟩) n n)) w')
    (hs : AllReady P md ops Q fuel listed a w rs) : AllReady P md ops Q fuel listed a w (i :: rs) := by
  refine allReady_op h hl (fun o K hop hd hK => ?_) hs
  unfold Oper.wp execOp
  simp only [hop]
  rw [← hv] at hrun
  simp [hrun]
  rw [Oper.upon_value, hd]
  exact hK _ _ (k _ _ (show Blk _ _ _ _ from Blk.made w cs e) (show Chg _ _ _ from (Chg.refl _ _).alloc _) (Nat.le_refl _))

end
end Go.Proofs.Ytffpjefecmkfmaa
namespace Go.Proofs.Ytffpjefecmkfmaa
open Go.RowKit

/-- What a region leaves, said once for all its orders; no panic. -/
def cutQ (R : Act → World → Prop) : Exit → Act → World → Prop
  | .normal, a, w => R a w
  | _, _, _ => False

theorem region_cutQ {P : Program} {co : Code} {Q : Exit → Act → World → Prop} {a : Act} {w : World} (R : Act → World → Prop) (h1 : co.wp P (cutQ R) a w) (h2 : ∀ a' w', R a' w' → Q .normal a' w') : co.wp P Q a w :=
  Code.wp_mono (fun e a w h => by cases e <;> first | exact h2 _ _ h | exact (h : False).elim) h1

theorem wpH_start {P : Program} {ops ops' : Array Oper} {Q : Exit → Act → World → Prop} {S : World → Prop} {id n : Nat} {a : Act} {w : World} (hm : P.follows .mixedOrders = true) (h : ops' = ops) (hn : ops'.size = n)
    (k : wpAnyH P .any ops' Q S n (bitsOf n 0) a w.drew) : (Code.region id ops true).wp P Q a w := by
  subst h
  subst hn
  refine wp_region_held (S := S) hm ?_
  rw [bitsOf_zero] at k
  exact k

section
variable {P : Program} {md : Region.Mode} {ops : Array Oper} {R : Act → World → Prop} {S : World → Prop} {fuel : Nat} {listed : Array Bool} {a : Act} {w : World} {i : Nat} {op : Op}

/-- One that changes nothing, in every world that S allows. -/
theorem wpH_take {d : Tmp} {v : Value} {a' : Act} (h : OpIs ops i (some d) op) (hs : Region.noSelect ops = true) (hf : Region.free md ops listed i = true) (hr : (Region.ready md ops listed).contains i = true)
    (hrun : ∀ (ρ : Operand → Value), ρ = a.eval → ∀ o : Oper, o.op = op → ∀ w, S w → (execOp ρ o).run P w = .ok (.value v) w) (hS : S w)
    {l' : Array Bool} (hl : listed.setIfInBounds i true = l') (ha : a.put (some d) v = a') (k : wpAnyH P md ops (cutQ R) S fuel l' a' w) : wpAnyH P md ops (cutQ R) S (fuel + 1) listed a w := by
  obtain ⟨o, ho, hd, hop, hg⟩ := h.get
  subst hl
  subst ha
  rw [← hd] at k
  exact wpAnyH_take ho hs hf hr (fun _ _ _ h => h) (Or.inl ⟨wanted_plain hg _, fun w hw => hrun _ rfl o hop w hw⟩) hS k

theorem readyH_op {dst : Option Tmp} {rs : List Nat} (h : OpIs ops i dst op) {l' : Array Bool} (hl : listed.setIfInBounds i true = l')
    (k : ∀ (o : Oper) (K : Act → World → Prop), o.op = op → o.dst = dst → (∀ a w, S w → wpAnyH P md ops (cutQ R) S fuel l' a w → K a w) → Oper.wp P o a w K (cutQ R))
    (hs : AllReadyH P md ops (cutQ R) S fuel listed a w rs) : AllReadyH P md ops (cutQ R) S fuel listed a w (i :: rs) := by
  subst hl
  obtain ⟨o, ho, hd, hop, hg⟩ := h.get
  exact AllReadyH.cons ho (fun K hK => by rw [if_pos (wanted_plain hg _)]; exact k o K hop hd (fun a w hS hW => hK.out a w hS (fun _ => hW))) hs

/-- A call of a function of the program. -/
theorem readyH_call {d : Tmp} {rs : List Nat} {f : FuncId} {args : Array Operand} {ats : Array TypeId} {vs : Array Value} (h : OpIs ops i (some d) (.call { callee := .value (.func f), args := args, argTypes := ats }))
    (he : ∀ (vs : Array Value) (w : World), (callFunc f vs).run P w = .ok (.enter f vs) w) (hv : args.map a.eval = vs) {l' : Array Bool} (hl : listed.setIfInBounds i true = l')
    (hc : Calls P f vs w fun e w' => ∃ v a', e = .returned v ∧ S w' ∧ a.put (some d) v = a' ∧ wpAnyH P md ops (cutQ R) S fuel l' a' w')
    (hs : AllReadyH P md ops (cutQ R) S fuel listed a w rs) : AllReadyH P md ops (cutQ R) S fuel listed a w (i :: rs) := by
  refine readyH_op h hl (fun o K hop hd hK => ?_) hs
  have e : (execOp a.eval o).run P w = .ok (.enter f vs) w := by
    unfold execOp
    simp only [hop]
    simp [resolve, Deferred.ofValue, Act.eval, invoke, hv, he]
  unfold Oper.wp
  rw [e, Oper.upon_enter]
  refine hc.mono ?_
  rintro e w' ⟨v, a', rfl, hS, rfl, k⟩
  rw [hd]
  exact hK _ _ hS k

/-- A variable is made. -/
theorem readyH_alloc {d : Tmp} {rs : List Nat} {t : TypeId} {zs : List Value} (h : OpIs ops i (some d) (.alloc t))
    (hrun : (Instr.alloc t true (.tuple #[])).run P w = .ok (.pointer (some ⟨w.heap.size, 0, none⟩)) (w.alloc (.cells zs.toArray t))) {l' : Array Bool} (hl : listed.setIfInBounds i true = l') {a' : Act}
    (ha : a.put (some d) (.pointer (some ⟨w.heap.size, 0, none⟩)) = a') (hS : S (w.alloc (.cells zs.toArray t))) (k : wpAnyH P md ops (cutQ R) S fuel l' a' (w.alloc (.cells zs.toArray t)))
    (hs : AllReadyH P md ops (cutQ R) S fuel listed a w rs) : AllReadyH P md ops (cutQ R) S fuel listed a w (i :: rs) := by
  refine readyH_op h hl (fun o K hop hd hK => ?_) hs
  unfold Oper.wp execOp
  simp only [hop]
  simp [hrun]
  rw [Oper.upon_value, hd, ha]
  exact hK _ _ hS k

/-- A great value is stored. -/
theorem readyH_store {rs : List Nat} {t : TypeId} {x y : Operand} {g : Nat} {cs : List Value} (h : OpIs ops i none (.store t x y)) (hx : a.eval x = .pointer (some ⟨g, 0, none⟩)) (hy : a.eval y = .agg cs.toArray)
    (ht : w.there g 0 cs.length) (hi : (P.info? t).map (·.size) = some cs.length) (h1 : ∀ v ∈ cs, v.oneCell' = true) {l' : Array Bool} (hl : listed.setIfInBounds i true = l')
    (hS : S (w.setCells g 0 cs)) (k : wpAnyH P md ops (cutQ R) S fuel l' a (w.setCells g 0 cs))
    (hs : AllReadyH P md ops (cutQ R) S fuel listed a w rs) : AllReadyH P md ops (cutQ R) S fuel listed a w (i :: rs) := by
  refine readyH_op h hl (fun o K hop hd hK => ?_) hs
  have hr := run_storeAt_mid (P := P) w g 0 t cs.toArray (by simpa using ht) (by simpa using hi) (all_oneCell_toArray h1)
  unfold Oper.wp execOp
  simp only [hop, hx, hy]
  simp [hr]
  first
    | (rw [Oper.upon_skip, hd]; exact hK _ _ hS k)
    | (unfold Oper.upon; simp [hd]; exact hK _ _ hS k)

end

theorem runH_move {P : Program} {S : World → Prop} {a : Act} {x : Operand} {v : Value} (hx : a.eval x = v) : ∀ (ρ : Operand → Value), ρ = a.eval → ∀ o : Oper, o.op = .move x → ∀ w, S w → (execOp ρ o).run P w = .ok (.value v) w := by
  intro ρ hρ o ho w _
  subst hρ
  exact run_move_at _ hx o ho w

theorem runH_convert {P : Program} {S : World → Prop} {a : Act} {s d : TypeId} {x : Operand} {u v : Value} (hx : a.eval x = u) (h : ∀ w, (convert s d u).run P w = .ok v w) : ∀ (ρ : Operand → Value), ρ = a.eval → ∀ o : Oper, o.op = .convert s d x → ∀ w, S w → (execOp ρ o).run P w = .ok (.value v) w := by
  intro ρ hρ o ho w _
  subst hρ
  unfold execOp
  simp only [ho, hx]
  simp [h]

theorem runH_index {P : Program} {S : World → Prop} {a : Act} {t : TypeId} {x y : Operand} {u i v : Value} (hx : a.eval x = u) (hy : a.eval y = i) (h : ∀ w, (Instr.indexAt t u i).run P w = .ok v w) : ∀ (ρ : Operand → Value), ρ = a.eval → ∀ o : Oper, o.op = .indexAddr t x y → ∀ w, S w → (execOp ρ o).run P w = .ok (.value v) w := by
  intro ρ hρ o ho w _
  subst hρ
  unfold execOp
  simp only [ho, hx, hy]
  simp [h]

theorem runH_load {P : Program} {S : World → Prop} {a : Act} {t : TypeId} {x : Operand} {u v : Value} (hx : a.eval x = u) (h : ∀ w, S w → (Instr.loadAt t u).run P w = .ok v w) : ∀ (ρ : Operand → Value), ρ = a.eval → ∀ o : Oper, o.op = .load t x → ∀ w, S w → (execOp ρ o).run P w = .ok (.value v) w := by
  intro ρ hρ o ho w hw
  subst hρ
  unfold execOp
  simp only [ho, hx]
  simp [h w hw]

theorem runH_bin {P : Program} {S : World → Prop} {a : Act} {b : BinOp} {t t2 : TypeId} {x y : Operand} {u u2 v : Value} (hx : a.eval x = u) (hy : a.eval y = u2) (h : ∀ w, (do eqGuard b t x y u u2; binOp b t u u2).run P w = .ok v w) : ∀ (ρ : Operand → Value), ρ = a.eval → ∀ o : Oper, o.op = .binOp b t x y t2 → ∀ w, S w → (execOp ρ o).run P w = .ok (.value v) w := by
  intro ρ hρ o ho w _
  subst hρ
  have h2 := h w
  unfold execOp
  simp only [ho, hx, hy]
  simp only [Sem.run_bind] at h2 ⊢
  rw [h2]
  simp

theorem runH_build {P : Program} {S : World → Prop} {a : Act} {t : TypeId} {parts : Array (Nat × Operand)} {vs : Array (Nat × Value)} {v : Value} (hx : parts.map (fun p => (p.1, a.eval p.2)) = vs) (h : ∀ w, (Instr.build t vs).run P w = .ok v w) : ∀ (ρ : Operand → Value), ρ = a.eval → ∀ o : Oper, o.op = .build t parts → ∀ w, S w → (execOp ρ o).run P w = .ok (.value v) w := by
  intro ρ hρ o ho w _
  subst hρ
  subst hx
  unfold execOp
  simp only [ho]
  simp [h]

end Go.Proofs.Ytffpjefecmkfmaa
