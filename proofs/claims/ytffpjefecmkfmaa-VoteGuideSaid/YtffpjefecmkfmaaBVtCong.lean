/-
  Ballots that come to the same vote. By an AI agent.
-/
import Derived.Test.YtffpjefecmkfmaaBVtSpec
namespace Go.Proofs.Ytffpjefecmkfmaa
open Go.RowKit
namespace Vt

theorem jr_eq {ds ds' : List BalD} (hl : ds.length = ds'.length) : jr ds = jr ds' := by unfold jr; rw [hl]

theorem mostTo_eq {ds ds' : List BalD} (hc : ∀ i, cnt ds i = cnt ds' i) (he : ∀ i, cnt ds i = true → (sp ds' i).ev = (sp ds i).ev) : ∀ j, mostTo ds j = mostTo ds' j
  | 0 => rfl
  | j + 1 => by
    unfold mostTo
    rw [mostTo_eq hc he j, ← hc j]
    by_cases h : cnt ds j = true
    · rw [if_pos h, if_pos h, he j h]
    · rw [if_neg h, if_neg h]

theorem agree_eq {ds ds' : List BalD} {p p' : Nat → Bool} {r : Sup → Sup → Bool} {n : Nat} (hp : ∀ i, p i = p' i) (hr : ∀ i j, p i = true → p j = true → r (sp ds i) (sp ds j) = r (sp ds' i) (sp ds' j)) : Agree ds p r n ↔ Agree ds' p' r n := by
  constructor
  · intro h i hi h1 j hj h2
    rw [← hp] at h1 h2
    rw [← hr j i h2 h1]
    exact h i hi h1 j hj h2
  · intro h i hi h1 j hj h2
    rw [hr j i h2 h1]
    exact h i hi (by rw [← hp]; exact h1) j hj (by rw [← hp]; exact h2)

theorem congr {ds ds' : List BalD} (hl : ds.length = ds'.length) (hc : ∀ i, cnt ds i = cnt ds' i) (he : ∀ i, cnt ds i = true → (sp ds' i).ev = (sp ds i).ev)
    (hak : ∀ i j, cnt ds i = true → cnt ds j = true → (sp ds i).akin (sp ds j) = (sp ds' i).akin (sp ds' j)) (hj : cnt ds (jr ds) = true → sp ds' (jr ds) = sp ds (jr ds)) (hn : cnt ds (jr ds) = false → ∀ i, cnt ds i = true → sp ds' i = sp ds i) :
    err ds = err ds' ∧ out ds = out ds' ∧ ch ds = ch ds' ∧ jn ds = jn ds' := by
  have hjr := jr_eq hl
  have hmt : most ds = most ds' := by unfold most; rw [mostTo_eq hc he, hl]
  have hlt : ∀ i, latest ds i = latest ds' i := fun i => by
    unfold latest
    rw [← hc i, ← hmt]
    by_cases h : cnt ds i = true
    · rw [he i h]
    · rw [Bool.eq_false_iff.2 h, Bool.false_and, Bool.false_and]
  have hld : lead ds = lead ds' := by
    unfold lead
    rw [← hl]
    have : latest ds = latest ds' := funext hlt
    rw [this]
  have hgd : guide ds = guide ds' := by
    unfold guide
    rw [← hjr, ← hc, hld]
  have hrf : refusal ds = refusal ds' := by
    unfold refusal
    rw [← hmt, ← hjr, ← hc, ← hl]
    by_cases h0 : most ds = 0
    · rw [if_pos h0, if_pos h0]
    rw [if_neg h0, if_neg h0]
    have ha := agree_eq (ds := ds) (ds' := ds') (p := cnt ds) (p' := cnt ds') (r := Sup.akin) (n := ds.length) hc hak
    by_cases h1 : Agree ds (cnt ds) Sup.akin ds.length
    · rw [if_pos h1, if_pos (ha.1 h1)]
      by_cases h2 : cnt ds (jr ds) = true
      · rw [if_pos h2, if_pos h2]
      · rw [if_neg h2, if_neg h2]
        have hs := hn (Bool.eq_false_iff.2 h2)
        unfold orphan
        have hA : Alive ds ds.length ↔ Alive ds' ds'.length := by
          unfold Alive
          rw [← hl]
          constructor
          · rintro ⟨i, hi, q1, q2⟩
            exact ⟨i, hi, by rw [← hlt]; exact q1, by rw [hs i (latest_cnt q1)]; exact q2⟩
          · rintro ⟨i, hi, q1, q2⟩
            rw [← hlt] at q1
            exact ⟨i, hi, q1, by rw [← hs i (latest_cnt q1)]; exact q2⟩
        have hL : Agree ds (latest ds) Sup.like ds.length ↔ Agree ds' (latest ds') Sup.like ds'.length := by
          rw [← hl]
          exact agree_eq hlt (fun i j q1 q2 => by rw [hs i (latest_cnt q1), hs j (latest_cnt q2)])
        by_cases h3 : Alive ds ds.length
        · rw [if_pos h3, if_pos (hA.1 h3)]
        · rw [if_neg h3, if_neg (fun q => h3 (hA.2 q))]
          by_cases h4 : Agree ds (latest ds) Sup.like ds.length
          · rw [if_pos h4, if_pos (hL.1 h4)]
          · rw [if_neg h4, if_neg (fun q => h4 (hL.2 q))]
    · rw [if_neg h1, if_neg (fun q => h1 (ha.2 q))]
  have hsp : most ds ≠ 0 → sp ds (guide ds) = sp ds' (guide ds') := fun h0 => by
    have hg := guide_cnt h0
    rw [← hgd]
    by_cases h2 : cnt ds (jr ds) = true
    · have e : guide ds = jr ds := by unfold guide; rw [if_pos h2]
      rw [e]
      exact (hj h2).symm
    · exact (hn (Bool.eq_false_iff.2 h2) _ hg).symm
  have hgn : ∀ s m, gone ds s m = gone ds' s m := fun s m => by
    unfold gone saw
    rw [← hc m]
    by_cases h : cnt ds m = true
    · rw [he m h]
    · rw [Bool.eq_false_iff.2 h, Bool.false_and, Bool.false_and]
  have hgf : ∀ s, gone ds s = gone ds' s := fun s => funext (hgn s)
  have hst : ∀ s j, stsTo ds s j = stsTo ds' s j := fun s j => by unfold stsTo; rw [hgf]
  have hch : ∀ s j, chTo ds s j = chTo ds' s j := fun s j => by unfold chTo; rw [hgf]
  have hcu : ∀ s j, curTo ds s j = curTo ds' s j := fun s j => by unfold curTo; rw [hgf]
  have hw : most ds ≠ 0 → won ds = won ds' := fun h0 => by
    unfold won
    rw [hsp h0, ← hgd, ← hjr]
    unfold vsup
    rw [hst, hcu, hmt]
  have hr0 : refusal ds = 0 → most ds ≠ 0 := fun h e => by
    unfold refusal at h
    rw [if_pos e] at h
    cases h
  have hee : err ds = err ds' := by
    unfold err
    rw [← hl, ← hrf]
    by_cases h1 : refusal ds = 0
    · rw [hw (hr0 h1)]
    · rw [if_neg h1, if_neg h1]
  have he0 : err ds = 0 → most ds ≠ 0 := fun h => by
    unfold err at h
    by_cases h1 : 4 ≤ ds.length ∧ ds.length ≤ 17
    · rw [if_pos h1] at h
      by_cases h2 : refusal ds = 0
      · exact hr0 h2
      · rw [if_neg h2] at h; exact absurd h h2
    · rw [if_neg h1] at h; cases h
  refine ⟨hee, ?_, ?_, ?_⟩
  · unfold out
    rw [← hee]
    by_cases h : err ds = 0
    · rw [if_pos h, if_pos h, hw (he0 h)]
    · rw [if_neg h, if_neg h]
  · unfold ch
    rw [← hee]
    by_cases h : err ds = 0
    · rw [← hsp (he0 h), hch]
    · rw [decide_eq_false h, Bool.false_and, Bool.false_and]
  · unfold jn
    rw [← hee, ← hgd, ← hjr]

/-- Ballots that say the same. -/
theorem same_out {ds ds' : List BalD} (hl : ds.length = ds'.length) (h : ∀ (k : Nat) d d', ds[k]? = some d → ds'[k]? = some d' → d.has = d'.has ∧ d.s = d'.s) :
    err ds = err ds' ∧ out ds = out ds' ∧ ch ds = ch ds' ∧ jn ds = jn ds' := by
  have hs : ∀ i, sp ds i = sp ds' i := fun i => by
    by_cases hi : i < ds.length
    · have e1 : ds[i]? = some ds[i] := List.getElem?_eq_getElem hi
      have e2 : ds'[i]? = some (ds'[i]'(by omega)) := List.getElem?_eq_getElem (by omega)
      rw [sp_at e1, sp_at e2]
      exact (h i _ _ e1 e2).2
    · unfold sp
      rw [List.getElem?_eq_none (by omega), List.getElem?_eq_none (by omega)]
  have hc : ∀ i, cnt ds i = cnt ds' i := fun i => by
    by_cases hi : i < ds.length
    · have e1 : ds[i]? = some ds[i] := List.getElem?_eq_getElem hi
      have e2 : ds'[i]? = some (ds'[i]'(by omega)) := List.getElem?_eq_getElem (by omega)
      obtain ⟨q1, q2⟩ := h i _ _ e1 e2
      rw [cnt_at e1, cnt_at e2]
      unfold fine
      rw [q1, q2, hl]
    · rw [cnt_out (by omega), cnt_out (by omega)]
  exact congr hl hc (fun i _ => by rw [hs]) (fun i j _ _ => by rw [hs, hs]) (fun _ => (hs _).symm) (fun _ i _ => (hs i).symm)

/-- The journal's ballot counts, and all that count are of its array. -/
theorem by_journal {ds : List BalD} (h4 : 4 ≤ ds.length) (h17 : ds.length ≤ 17) (hc : cnt ds (jr ds) = true) (ha : ∀ i, cnt ds i = true → (sp ds i).akin (sp ds (jr ds)) = true) :
    guide ds = jr ds ∧ err ds = if away (won ds).st ≤ 1 then 0 else 152 := by
  have hm : most ds ≠ 0 := by
    have := le_most hc
    have := ev_pos hc
    omega
  have hA : Agree ds (cnt ds) Sup.akin ds.length := fun i _ hp j _ hq => by
    have e1 := ha i hp
    have e2 := ha j hq
    rw [Sup.akin_comm] at e1
    have := Sup.akin_trans (c := sp ds i) e2
    rw [← this]
    exact e1
  have hr : refusal ds = 0 := by
    unfold refusal
    rw [if_neg hm, if_pos hA, if_pos hc]
  refine ⟨by unfold guide; rw [if_pos hc], ?_⟩
  unfold err
  rw [if_pos ⟨h4, h17⟩, if_pos hr]

end Vt
end Go.Proofs.Ytffpjefecmkfmaa
