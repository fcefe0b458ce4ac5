/-
  What both sides of a record lean on. By an AI agent.
-/
import Derived.Test.YtnkdgmnmmmjgjaaGreatCrcMath
import Derived.Test.YtnkdgmnmmmjgjaaGreatGNats
import Derived.Test.YtnkdgmnmmmjgjaaGreatGAppend
import Derived.Test.YtnkdgmnmmmjgjaaGreatLeArith
import Derived.Lib.AppendStr
import Derived.Deep.CutBlock
import Derived.Deep.DeepCutAuto
import Derived.Laws.BytesArg
namespace Go.Proofs.YtnkdgmnmmmjgjaaGreat
open Crc Go.RowKit

theorem ints_app (a b : List Nat) : ints (a ++ b) = ints a ++ ints b := by simp [ints]

/-- A list of bytes that is grown. -/
structure Ext (base : Nat) (w : World) (v : Value) (ys : List Nat) (w' : World) (v' : Value) : Prop where
  own : w'.ownsRow base 5 1 v' ys.length ((ints ys).map (Value.int .u8))
  chg : Chg v.ownBlock.toList w w'
  blk : v'.ownBlock = v.ownBlock ∨ ∃ k, v'.ownBlock = some k ∧ w.heap.size ≤ k

theorem Ext.trans {base : Nat} {w w1 w2 : World} {v v1 v2 : Value} {ys zs : List Nat} (h : Ext base w v ys w1 v1) (k : Ext base w1 v1 zs w2 v2) : Ext base w v zs w2 v2 := by
  refine ⟨k.own, h.chg.fresh k.chg (fun j hj => ?_), ?_⟩
  · rcases h.blk with e | ⟨q, e, hq⟩
    · rw [e] at hj; exact .inl hj
    · rw [e] at hj
      have : j = q := by simpa using hj
      exact .inr (by omega)
  · rcases k.blk with e | ⟨q, e, hq⟩
    · rcases h.blk with e2 | ⟨q2, e2, hq2⟩
      · exact .inl (e.trans e2)
      · exact .inr ⟨q2, e.trans e2, hq2⟩
    · exact .inr ⟨q, e, Nat.le_trans h.chg.size hq⟩

theorem Ext.refl {base : Nat} {w : World} {v : Value} {ys : List Nat} (h : w.ownsRow base 5 1 v ys.length ((ints ys).map (Value.int .u8))) : Ext base w v ys w v := ⟨h, Chg.refl _ _, .inl rfl⟩

/-- What an append made of it, the bytes appended lying in a block that was made ahead. -/
theorem Ext.app {base : Nat} {w W w' : World} {v v' : Value} {ys zs : List Nat} (o : Obj) (hW : W = w.alloc o) (own : w'.ownsRow base 5 1 v' (ys.length + zs.length) ((ints ys).map (Value.int .u8) ++ (ints zs).map (Value.int .u8))) (hg : W.grownBy w' v.ownBlock)
    (hb : v'.ownBlock = v.ownBlock ∨ (v'.ownBlock = some W.heap.size ∧ W.grownBy w' none)) : Ext base w v (ys ++ zs) w' v' := by
  subst hW
  refine ⟨by rw [ints_app, List.map_append, List.length_append]; exact own, ((Chg.refl v.ownBlock.toList w).alloc o).grown hg (fun k hk => .inl (by rw [hk]; simp)), ?_⟩
  rcases hb with e | ⟨e, _⟩
  · exact .inl e
  · exact .inr ⟨_, e, by simp⟩

theorem one_cell (w : World) (x : Value) (e : TypeId) : ∀ j u, [x][j]? = some u → (w.alloc (.cells #[x] e)).cell? ((⟨w.heap.size, 0, none⟩ : Addr).add j) = some u := by
  intro j u hj
  have := (Blk.made w [x] e).cell hj
  rw [Addr.add_lit, Nat.zero_add]
  exact this

theorem info_byte : (Tryz.prog.info? 5).map (fun i => (i.zero, i.size, i.bytes)) = some (some (.int .u8 0), 1, 1) := by kernel_rfl

theorem magic_ext {w W : World} {v : Value} {base : Nat} (hb : base = w.heap.size) (own : W.ownsRow base 5 1 v (0 + (⟨#[83, 80, 74, 76]⟩ : ByteArray).size) ([] ++ Lib.strCells ⟨#[83, 80, 74, 76]⟩)) (gr : w.grownBy W (Value.slice none 0 0).ownBlock) : Ext base w (.slice none 0 0) magicB W v := by
  have e1 : Lib.strCells ⟨#[83, 80, 74, 76]⟩ = (ints magicB).map (Value.int .u8) := by kernel_rfl
  rw [e1] at own
  refine ⟨own, (Chg.refl _ w).grown gr (fun k hk => .inl (by rw [hk]; simp)), ?_⟩
  rcases h : v.ownBlock with _ | k
  · exact .inl rfl
  · exact .inr ⟨k, rfl, by have := (own.lt k h).1; omega⟩

theorem wp_named2 {P : Program} {c : Code} {Q : Exit → Act → World → Prop} {a : Act} {W : World} (h : ∀ W', W' = W → c.wp P Q a W') : c.wp P Q a W := h W rfl

def lenV : Value → Nat
  | .slice _ n _ => n
  | _ => 0

theorem rec_body {r : Rec} {ys : List Nat} (hy : ys = r.begun ++ Rec.tail r.fs) : ys ++ List.replicate (124 - ys.length) 0 = r.body := by
  subst hy
  rw [List.length_append, Rec.begun_length, Rec.tail_length, show 124 - (24 + 4 * r.fs.length) = 100 - 4 * r.fs.length by omega]
  rfl

theorem rec_bs {r : Rec} {ys : List Nat} (hy : ys = r.begun ++ Rec.tail r.fs) : Bs ys := fun x hx => by
  subst hy
  exact r.body_bs x (List.mem_append_left _ hx)

/-- What the document's Encodes hand out. -/
def RcEncs (w : World) (enc : List Nat) (err : Int) (e : Ending) (w' : World) : Prop :=
  ∃ v, e = .returned (.tuple #[v, .int .i64 err]) ∧ Hid (w'.ownsRow w.heap.size 5 1 v enc.length ((ints enc).map (Value.int .u8))) ∧ Hid (Chg [] w w')

theorem strOfNums_inj {a b : List Nat} (ha : Bs a) (hb : Bs b) (h : (strOfNums (ints a)).toList = (strOfNums (ints b)).toList) : a = b := by
  have h1 : (strOfNums (ints a)).data.toList = (strOfNums (ints b)).data.toList := by rw [← ByteArray.toList_eq, ← ByteArray.toList_eq, h]
  rw [strOfNums_data, strOfNums_data] at h1
  unfold ints at h1
  rw [List.map_map, List.map_map] at h1
  have h2 := congrArg (List.map UInt8.toNat) h1
  rw [List.map_map, List.map_map] at h2
  have k : ∀ l : List Nat, Bs l → l.map (UInt8.toNat ∘ ((fun n : Int => UInt8.ofNat n.toNat) ∘ fun x : Nat => (x : Int))) = l := fun l hl => by
    conv => rhs; rw [← List.map_id l]
    refine List.map_congr_left (fun x hx => ?_)
    have := hl x hx
    simp
    omega
  exact (k a ha).symm.trans (h2.trans (k b hb))

theorem str_conv (w : World) (g o c : Nat) (b : List Nat) (h : Sl w (.slice (some ⟨g, o, none⟩) b.length c) (ints b)) (hl : 0 < b.length) :
    (convert 55 9 (.slice (some ⟨g, o, none⟩) b.length c)).run Tryz.prog w = .ok (.string (strOfNums (ints b))) w := by
  rcases h with ⟨h0, _⟩ | ⟨g', o', c', hv, lb, hc⟩
  · have := congrArg List.length h0; rw [ints_length] at this; rw [this] at hl; cases hl
  · obtain ⟨⟨rfl, rfl⟩, _, rfl⟩ : (g = g' ∧ o = o') ∧ _ ∧ c = c' := by simpa using hv
    exact run_convert_bytes_arg w 55 5 Tryz.underlying55 Tryz.underlying5 g o b.length c (ints b) (by rw [ints_length]) (fun i hi => hc i (by rw [ints_length]; exact hi)) 9 Tryz.underlying9

theorem str_pre (w : World) (g o c n m : Nat) (b : List Nat) (h : Sl w (.slice (some ⟨g, o, none⟩) n c) (ints b)) (hn : b.length = n) (hm : m ≤ n) (h0 : 0 < m) :
    (convert 55 9 (.slice (some ⟨g, o, none⟩) m c)).run Tryz.prog w = .ok (.string (strOfNums (ints (b.take m)))) w := by
  subst hn
  have e : (b.take m).length = m := by rw [List.length_take]; omega
  have h1 := Sl.pre (n := b.length) (c := c) (by exact h) m hm
  rw [show (ints b).take m = ints (b.take m) from by simp [ints]] at h1
  have := str_conv w g o c (b.take m) (by rw [e]; exact h1) (by omega)
  rw [e] at this
  exact this

end Go.Proofs.YtnkdgmnmmmjgjaaGreat
