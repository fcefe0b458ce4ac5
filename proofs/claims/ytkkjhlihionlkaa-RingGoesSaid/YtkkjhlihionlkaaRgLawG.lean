/-
  RingGoes, walked. By an AI agent. Printed by gen_rglawg.py.
-/
import Derived.Test.YtkkjhlihionlkaaRgLawP
import Derived.Test.YtkkjhlihionlkaaRgIn
import Derived.Deep.CutBlock
import Derived.Deep.DeepCutAuto
namespace Go.Proofs.Ytkkjhlihionlkaa
open Go.RowKit

/-- What Take comes to, whatever is asked: m places, and an error. -/
def Took (S u : Nat) (x : Int) (m : Nat) (er : Int) : Prop := (x < 0 ∧ m = 0 ∧ er = 1) ∨ (0 ≤ x ∧ ((S - u : Nat) : Int) < x ∧ m = 0 ∧ er = 90) ∨ (x = m ∧ m ≤ S - u ∧ er = 0)

theorem take_all {S t u : Nat} (h : Rg S t u) (x : Int) : ∃ m er, Took S u x m er ∧ ∀ R w, RingB w R S t u → Calls Try.prog 20 #[.pointer (some ⟨R, 0, none⟩), .int .i64 x] w fun e w' =>
    ∃ v, e = .returned (.tuple #[v, .int .u16 er]) ∧ Hid (SpRow w' w.heap.size v (spn S ((t + u) % S) m)) ∧ Hid (RingB w' R S t (u + m)) ∧ Hid (Chg [R] w w') := by
  have nl : ∀ f, spn S f 0 = [] := fun f => by simp [spn, runs]
  by_cases h0 : x < 0
  · refine ⟨0, 1, .inl ⟨h0, rfl, rfl⟩, fun R w hb => (take_neg R x h0 w).mono ?_⟩
    rintro e w' ⟨rfl, C⟩
    exact ⟨_, rfl, by rw [nl]; exact SpRow.nil _ _, hb.chg C.out (by simp), C.out.mono (by simp)⟩
  · by_cases h1 : ((S - u : Nat) : Int) < x
    · refine ⟨0, 90, .inr (.inl ⟨by omega, h1, rfl, rfl⟩), fun R w hb => (take_full h w hb x h1).mono ?_⟩
      rintro e w' ⟨rfl, C⟩
      exact ⟨_, rfl, by rw [nl]; exact SpRow.nil _ _, hb.chg C.out (by simp), C.out.mono (by simp)⟩
    · obtain ⟨k, rfl⟩ : ∃ k : Nat, x = k := ⟨x.toNat, by omega⟩
      exact ⟨k, 0, .inr (.inr ⟨rfl, by omega, rfl⟩), fun R w hb => take_ok h w hb k (by omega)⟩

/-- What Give comes to, whatever is asked. -/
def Gave (u : Nat) (x : Int) (m : Nat) (er : Int) : Prop := (x < 0 ∧ m = 0 ∧ er = 1) ∨ (0 ≤ x ∧ (u : Int) < x ∧ m = 0 ∧ er = 91) ∨ (x = m ∧ m ≤ u ∧ er = 0)

theorem give_all {S t u : Nat} (h : Rg S t u) (x : Int) : ∃ m er, Gave u x m er ∧ ∀ R w, RingB w R S t u → Calls Try.prog 21 #[.pointer (some ⟨R, 0, none⟩), .int .i64 x] w fun e w' =>
    ∃ v, e = .returned (.tuple #[v, .int .u16 er]) ∧ Hid (SpRow w' w.heap.size v (spn S t m)) ∧ Hid (RingB w' R S ((t + m) % S) (u - m)) ∧ Hid (Chg [R] w w') := by
  have nl : ∀ f, spn S f 0 = [] := fun f => by simp [spn, runs]
  have ht : (t + 0) % S = t := Nat.mod_eq_of_lt h.tail
  by_cases h0 : x < 0
  · refine ⟨0, 1, .inl ⟨h0, rfl, rfl⟩, fun R w hb => (give_neg R x h0 w).mono ?_⟩
    rintro e w' ⟨rfl, C⟩
    exact ⟨_, rfl, by rw [nl]; exact SpRow.nil _ _, by rw [ht]; exact hb.chg C.out (by simp), C.out.mono (by simp)⟩
  · by_cases h1 : (u : Int) < x
    · refine ⟨0, 91, .inr (.inl ⟨by omega, h1, rfl, rfl⟩), fun R w hb => (give_less w hb x h1).mono ?_⟩
      rintro e w' ⟨rfl, C⟩
      exact ⟨_, rfl, by rw [nl]; exact SpRow.nil _ _, by rw [ht]; exact hb.chg C.out (by simp), C.out.mono (by simp)⟩
    · obtain ⟨k, rfl⟩ : ∃ k : Nat, x = k := ⟨x.toNat, by omega⟩
      exact ⟨k, 0, .inr (.inr ⟨rfl, by omega, rfl⟩), fun R w hb => give_ok h w hb k (by omega)⟩

set_option maxHeartbeats 4000000 in
set_option maxRecDepth 100000 in
theorem ringGoes_much (s t u : Int) (ao : Option Addr) (n c : Nat) (hn : 20000 < n) (W : World) :
    Calls Try.prog 4 #[.int .i64 s, .int .i64 t, .int .i64 u, .slice ao n c] W (Holds W) := by
  have h1 : (20000 : Int) < n := by omega
  go_enter Try.func4, Try.ntmps4
  go_wp2_with fail
  go_ret
  exact ⟨rfl, Chg.refl _ _⟩

set_option maxHeartbeats 4000000 in
set_option maxRecDepth 100000 in
theorem ringGoes_no (s t u : Int) (ao : Option Addr) (n c : Nat) (hn : ¬ 20000 < n) (W : World) (h : ∀ w, Calls Try.prog 8 #[.int .i64 s, .int .i64 t, .int .i64 u] w (NoRing w)) :
    Calls Try.prog 4 #[.int .i64 s, .int .i64 t, .int .i64 u, .slice ao n c] W (Holds W) := by
  have h1 : ¬ (20000 : Int) < n := by omega
  go_enter Try.func4, Try.ntmps4
  go_wp2_with (first
    | (go_at_call 8; refine (h _).mono ?_; rintro e w' ⟨rfl, rfl⟩)
    | (go_at_call 10; refine (known_any _).mono ?_; rintro e w' ⟨rfl, C⟩))
  go_ret
  exact ⟨rfl, C.out⟩

theorem kind_cases (kd : Int) : Hid ((kd = 1 ∧ True) ∨ (kd = 2 ∧ (kd == 1) = false) ∨ (kd == 1) = false ∧ (kd == 2) = false) := by
  show _ ∨ _
  by_cases h1 : kd = 1
  · exact .inl ⟨h1, trivial⟩
  · by_cases h2 : kd = 2
    · exact .inr (.inl ⟨h2, by simpa using h1⟩)
    · exact .inr (.inr ⟨by simpa using h1, by simpa using h2⟩)

set_option maxHeartbeats 8000000 in
set_option maxRecDepth 100000 in
theorem ringGoes_ok {S T U : Nat} (h : Rg S T U) (v : Value) (ds : List ROpD) (W : World) (hd : ROps W v ds) (hn : ¬ 20000 < ds.length) :
    Calls Try.prog 4 #[.int .i64 (S : Int), .int .i64 (T : Int), .int .i64 (U : Int), v] W (Holds W) := by
  obtain ⟨i0, hi, hz0, hz1, hz2⟩ := info_parts info_bool1
  replace hi := Lib.hid hi
  replace hz0 := Lib.hid hz0
  replace hz1 := Lib.hid hz1
  replace hz2 := Lib.hid hz2
  have NW := Lib.hid (new_ok h W)
  have HR0 := Lib.hid h
  have HS : Hid (5 ≤ S ∧ S ≤ 2048) := ⟨h.lo, h.hi⟩
  have h1 : ¬ (20000 : Int) < ds.length := by omega
  obtain ⟨ao, vc, rfl⟩ := hd.slice
  have DS : Hid (∀ w', Chg [] W w' → ROps w' (.slice ao ds.length vc) ds) := fun w' c => hd.chg c
  have HL := Lib.hid hn
  clear h hd hn
  go_enter Try.func4, Try.ntmps4
  go_wp2_with fail
  refine NW.out.mono ?_
  rintro e w1 ⟨rfl, B, C⟩
  have H := Lib.hid ((Side.nil (Chg.refl _ W)).ring B.out C.out)
  clear B C NW
  generalize hR : W.heap.size = R at *
  clear hR
  go_wp2_with fail
  refine (known_any _).mono ?_
  rintro e w2 ⟨rfl, C⟩
  replace H := Lib.hid (H.out.quiet C.out)
  clear C
  go_wp2_with fail
  go_loopw [11, 12] (fun nn i wr => ∃ k t u : Nat, k ≤ ds.length ∧ i = .int .i64 k ∧ nn = .int .i64 u ∧ Hid (Rg S t u) ∧ Hid (Side W wr [ringT R S t u])) (fun _ i _ => ds.length - (intOf i).toNat)
  case atStart => exact ⟨0, T, U, Nat.zero_le _, rfl, rfl, HR0, H⟩
  case round =>
    obtain ⟨k, t, u, hk, rfl, rfl, HR, HH⟩ := hrel
    clear H HR0
    have H := HH
    clear HH
    by_cases hlt : k < ds.length
    case neg =>
      have hk2 : ¬ (k : Int) < ds.length := by omega
      have US := Lib.hid (fun w' (c : Chg [] wr w') => used_any HR.out w' ((H.out.quiet c).get 0 rfl))
      have SZ := Lib.hid (fun w' (c : Chg [] wr w') => size_any HR.out w' ((H.out.quiet c).get 0 rfl))
      go_wp2_with fail
      refine (US.out _ (Chg.refl _ _)).mono ?_
      rintro e w3 ⟨rfl, C⟩
      go_wp2_with fail
      refine (SZ.out _ C.out).mono ?_
      rintro e w4 ⟨rfl, C4⟩
      go_wp2_with fail
      go_ret
      exact ⟨rfl, (H.out.chg.trans C.out).trans C4.out⟩
    have hk0 : (0 : Int) ≤ k := Int.natCast_nonneg _
    have hk1 : (k : Int) < ds.length := by omega
    by_cases hlm : k < 100
    case neg =>
      have hk2 : ¬ (k : Int) < 100 := by omega
      have US := Lib.hid (fun w' (c : Chg [] wr w') => used_any HR.out w' ((H.out.quiet c).get 0 rfl))
      have SZ := Lib.hid (fun w' (c : Chg [] wr w') => size_any HR.out w' ((H.out.quiet c).get 0 rfl))
      go_wp2_with fail
      refine (US.out _ (Chg.refl _ _)).mono ?_
      rintro e w3 ⟨rfl, C⟩
      go_wp2_with fail
      refine (SZ.out _ C.out).mono ?_
      rintro e w4 ⟨rfl, C4⟩
      go_wp2_with fail
      go_ret
      exact ⟨rfl, (H.out.chg.trans C.out).trans C4.out⟩
    have hk2 : (k : Int) < 100 := by omega
    obtain ⟨⟨kd, x⟩, hx⟩ : ∃ p, ds[k]? = some p := ⟨_, List.getElem?_eq_getElem hlt⟩
    have HX := Lib.hid hx
    obtain ⟨vb, vo, rfl, _, _⟩ := (DS.out _ H.out.chg).at hx
    have DC : Hid (∀ w', Chg [] W w' → w'.cell? ⟨vb, vo + k * 2, none⟩ = some (.int .i64 kd) ∧ w'.cell? ⟨vb, vo + k * 2 + 1, none⟩ = some (.int .i64 x)) := fun w' c => by
      obtain ⟨b2, o2, q, _, I⟩ := (DS.out w' c).at HX.out
      obtain ⟨rfl, rfl⟩ : vb = b2 ∧ vo = o2 := by simpa using q
      exact ⟨I.c0, I.c1⟩
    have HLT := Lib.hid hlt
    have HLM := Lib.hid hlm
    clear hx hlt hlm hk
    obtain ⟨f, hf⟩ : ∃ f, f = (t + u) % S := ⟨_, rfl⟩
    have HF := Lib.hid hf
    clear hf
    have fS : Hid (f < S) := by rw [HF.out]; exact HR.out.head_lt u
    obtain ⟨a, ha⟩ : ∃ a, a = S - u := ⟨_, rfl⟩
    have HA := Lib.hid ha
    clear ha
    obtain ⟨y, hy⟩ : ∃ y, y = t + u := ⟨_, rfl⟩
    have HY := Lib.hid hy
    clear hy
    have W1 : Hid ((S : Int) - (u : Int) = (a : Int) ∧ IntKind.i64.wrap (a : Int) = (a : Int) ∧ (t : Int) + (u : Int) = (y : Int) ∧ IntKind.i64.wrap (y : Int) = (y : Int) ∧ Int.tmod (y : Int) (S : Int) = (f : Int) ∧ ¬ (S : Int) = 0 ∧ IntKind.i64.wrap (f : Int) = (f : Int)) := by
      have q1 := HR.out.lo
      have q2 := HR.out.hi
      have q3 := HR.out.tail
      have q4 := HR.out.used
      have q5 := HA.out
      have q6 := HY.out
      have q7 := fS.out
      refine ⟨by omega, (wrap_in (by omega) (by omega)).1, by omega, (wrap_in (by omega) (by omega)).1, ?_, by omega, (wrap_in (by omega) (by omega)).1⟩
      rw [HF.out, ← q6]
      rfl
    have WK := Lib.hid (wrap_in (z := (k : Int) + 1) (by have := HLM.out; omega) (by have := HLM.out; omega))
    have L1 := Lib.hid (fun w' (hb : RingB w' R S t u) => head_any HR.out w' hb)
    rw [← HF.out] at L1
    have L2 := Lib.hid (fun w' (hb : RingB w' R S t u) => tail_any HR.out w' hb)
    have L3 := Lib.hid (fun w' (hb : RingB w' R S t u) => live_any HR.out w' hb)
    have L4 := Lib.hid (fun w' (hb : RingB w' R S t u) => used_any HR.out w' hb)
    have L5 := Lib.hid (fun w' (hb : RingB w' R S t u) => free_any HR.out w' hb)
    rw [← HA.out] at L5
    have Q1 := Lib.hid (fun w' v' g c (hv : SpRow w' 0 v' (spn S t u)) (hg : MkRow w' g S c (fun _ => false)) (hne : v'.ownBlock ≠ some g) => marks_any HR.out.tail HR.out.used HR.out.hi (fun _ => false) (fun _ _ => rfl) v' g c w' hv hg hne)
    obtain ⟨m, er, tk, TK⟩ := take_all HR.out x
    obtain ⟨m2, er2, gv, GV⟩ := give_all HR.out x
    rw [← HF.out] at TK
    replace TK := Lib.hid TK
    replace GV := Lib.hid GV
    replace tk := Lib.hid tk
    replace gv := Lib.hid gv
    go_wp2_with fail
    refine (L1.out _ (H.out.get 0 rfl)).mono ?_
    rintro e w3 ⟨rfl, C⟩
    replace H := Lib.hid (H.out.quiet C.out)
    clear C
    go_wp2_with fail
    refine (L2.out _ (H.out.get 0 rfl)).mono ?_
    rintro e w4 ⟨rfl, C⟩
    replace H := Lib.hid (H.out.quiet C.out)
    clear C
    go_wp2_with (at_make; refine wpList_make_full _ rfl _ _ 53 rfl w4.heap.size 4 i0 (.bool false) 1 Try.underlying53 hi.out hz0.out hz1.out .i64 .i64 (S : Int) (S : Int) S rfl rfl rfl rfl (by rw [hz2.out]; have := HS.out; omega) (by unfold maxLen; have := HS.out; omega) (Nat.le_refl _) ?_; intro w5 hown hgrow; rw [made_replicate _ _ rfl] at hown; replace H := Lib.hid (H.out.blank hown ((Chg.refl _ _).grown hgrow (by intro k hk; cases hk))); clear hown hgrow)
    generalize w4.heap.size = g at *
    go_wp2_with fail
    refine (L3.out _ (H.out.get 1 rfl)).mono ?_
    rintro e w6 ⟨v6, rfl, O, C⟩
    replace H := Lib.hid (H.out.spans O.out C.out)
    clear O C
    go_wp2_with fail
    refine (Q1.out w6 v6 g S (H.out.get 0 rfl) (H.out.get 1 rfl) (H.out.clear 0 1 rfl rfl (by decide))).mono ?_
    rintro e w7 ⟨rfl, C, M⟩
    replace H : Hid (Side W w7 [spT v6 (spn S t u), mkT g S S (ups S t u), ringT R S t u]) := H.out.marked 1 rfl M.out C.out
    clear C M
    obtain ⟨e1, e2, e4, e5, e7, e8, e9⟩ := W1.out
    go_wp2_with fail
    refine (L4.out _ (H.out.get 2 rfl)).mono ?_
    rintro e w8 ⟨rfl, C⟩
    replace H := Lib.hid (H.out.quiet C.out)
    clear C
    go_wp2_with fail
    refine (L5.out _ (H.out.get 2 rfl)).mono ?_
    rintro e w9 ⟨rfl, C⟩
    replace H := Lib.hid (H.out.quiet C.out)
    clear C
    obtain ⟨c0, c1⟩ := DC.out _ H.out.chg
    clear L1 L2 L3 L4 L5 Q1
    have kc : Hid ((kd = 1 ∧ True) ∨ (kd = 2 ∧ (kd == 1) = false) ∨ (kd == 1) = false ∧ (kd == 2) = false) := kind_cases kd
    rcases kc.out with ⟨k1, _⟩ | ⟨k2, kb1⟩ | ⟨kb1, kb2⟩
    · subst k1
      clear GV gv kc
      go_wp2_with fail
      clear e1 e2 e4 e5 e7 e8 e9
      refine (TK.out _ _ (H.out.get 2 rfl)).mono ?_
      rintro e w10 ⟨v10, rfl, O, B, C⟩
      replace H := Lib.hid (H.out.took 2 rfl O.out B.out C.out)
      clear O B C TK c0 c1
      have FREE : Hid (∀ j, j < m → ups S t u ((f + j) % S) = false) := fun j hj => by
        have q := tk.out
        have q1 := HR.out.tail
        have q2 := HR.out.used
        have hu : u + j < S := by
          rcases q with ⟨_, q3, _⟩ | ⟨_, _, q3, _⟩ | ⟨_, q3, _⟩ <;> omega
        rw [HF.out, Nat.mod_add_mod, Nat.add_assoc, ups_at q1 hu]
        simp
      have mS : Hid (m ≤ S ∧ m ≤ S - u) := by
        rcases tk.out with ⟨_, q3, _⟩ | ⟨_, _, q3, _⟩ | ⟨_, q3, _⟩ <;> (show _ ∧ _; omega)
      go_wp2_with fail
      refine (marks_any fS.out mS.out.1 HS.out.2 (ups S t u) FREE.out v10 g S _ (H.out.get 0 rfl) (H.out.get 2 rfl) (H.out.clear 0 2 rfl rfl (by decide))).mono ?_
      rintro e w11 ⟨rfl, C, M⟩
      replace H := Lib.hid (H.out.marked 2 rfl M.out C.out)
      clear C M FREE
      have H2 : Hid (Side W w11 [ringT R S t (u + m)]) := ((((H.out.front 3).sub (us := [ringT R S t (u + m)]) (by simp [front]))))
      have R2 : Hid (Rg S t (u + m)) := HR.out.more mS.out.2
      obtain ⟨c0, c1⟩ := DC.out _ H2.out.chg
      have em : (u : Int) + (m : Int) = ((u + m : Nat) : Int) := by omega
      have hum := mS.out
      have wm := wrap_in (z := ((u + m : Nat) : Int)) (by have := HS.out; have := HR.out.used; omega) (by have := HS.out; have := HR.out.used; omega)
      obtain ⟨z, hz⟩ : ∃ z, z = u + m := ⟨_, rfl⟩
      rw [← hz] at em wm R2 H2
      have HZ := Lib.hid hz
      clear hz hum
      replace wm := Lib.hid wm
      go_upto_region 21 with fail
      go_cut [165] from 122 to 164 (fun s165 wx => s165 = .bool false ∧ wx = w11)
      case first =>
        rcases tk.out with ⟨t1, rfl, rfl⟩ | ⟨t0, t1, rfl, rfl⟩ | ⟨rfl, t1, rfl⟩
        · have g1 : ((0 : Int) == x) = false := by simp; omega
          have g2 : ¬ (0 : Int) ≤ x := by omega
          clear t1 H mS em
          go_wp2_with fail
          go_meet
          exact ⟨rfl, rfl⟩
        · rw [← HA.out] at t1
          have g1 : ((0 : Int) == x) = false := by simp; omega
          have g3 : ¬ x ≤ (a : Int) := by omega
          clear t1 H mS em
          obtain ⟨e1, e2, e4, e5, e7, e8, e9⟩ := W1.out
          clear e4 e5 e7 e8 e9
          go_wp2_with fail
          go_meet
          exact ⟨rfl, rfl⟩
        · rw [← HA.out] at t1
          have g2 : (0 : Int) ≤ (m : Int) := Int.natCast_nonneg _
          have g3 : (m : Int) ≤ (a : Int) := by omega
          clear t1 H mS em
          obtain ⟨e1, e2, e4, e5, e7, e8, e9⟩ := W1.out
          clear e4 e5 e7 e8 e9
          go_wp2_with fail
          go_meet
          exact ⟨rfl, rfl⟩
      case rest =>
        obtain ⟨rfl, rfl⟩ := hcut
        have wm1 := wm.out.1
        have wk1 := WK.out.1
        clear H mS
        go_wp2_with fail
        clear em wm1 wk1
        exact ⟨⟨k + 1, t, z, by have := HLT.out; omega, rfl, rfl, R2, H2⟩, by have := HLT.out; simp [intOf]; omega⟩
    · subst k2
      clear TK tk kc kb1
      go_wp2_with (at_make; refine wpList_make_full _ rfl _ _ 53 rfl w9.heap.size 4 i0 (.bool false) 1 Try.underlying53 hi.out hz0.out hz1.out .i64 .i64 (S : Int) (S : Int) S rfl rfl rfl rfl (by rw [hz2.out]; have := HS.out; omega) (by unfold maxLen; have := HS.out; omega) (Nat.le_refl _) ?_; intro w10 hown hgrow; rw [made_replicate _ _ rfl] at hown; replace H := Lib.hid (H.out.blank hown ((Chg.refl _ _).grown hgrow (by intro k hk; cases hk))); clear hown hgrow; clear c0 c1; obtain ⟨c0, c1⟩ := DC.out _ H.out.chg)
      clear e1 e2 e4 e5 e7 e8 e9
      generalize w9.heap.size = g2 at *
      refine (GV.out _ _ (H.out.get 3 rfl)).mono ?_
      rintro e w11 ⟨v11, rfl, O, B, C⟩
      replace H := Lib.hid (H.out.took 3 rfl O.out B.out C.out)
      clear O B C GV c0 c1
      have mS : Hid (m2 ≤ S ∧ m2 ≤ u) := by
        have := HR.out.used
        rcases gv.out with ⟨_, q3, _⟩ | ⟨_, _, q3, _⟩ | ⟨_, q3, _⟩ <;> (show _ ∧ _; omega)
      go_wp2_with fail
      refine (marks_any HR.out.tail mS.out.1 HS.out.2 (fun _ => false) (fun _ _ => rfl) v11 g2 S _ (H.out.get 0 rfl) (H.out.get 1 rfl) (H.out.clear 0 1 rfl rfl (by decide))).mono ?_
      rintro e w12 ⟨rfl, C, M⟩
      replace H := Lib.hid (H.out.marked 1 rfl M.out C.out)
      clear C M
      have H2 : Hid (Side W w12 [ringT R S ((t + m2) % S) (u - m2)]) := ((((H.out.front 4).sub (us := [ringT R S ((t + m2) % S) (u - m2)]) (by simp [front]))))
      have R2 : Hid (Rg S ((t + m2) % S) (u - m2)) := HR.out.less
      obtain ⟨c0, c1⟩ := DC.out _ H2.out.chg
      obtain ⟨z, hz⟩ : ∃ z, z = u - m2 := ⟨_, rfl⟩
      obtain ⟨t2, ht2⟩ : ∃ t2, t2 = (t + m2) % S := ⟨_, rfl⟩
      obtain ⟨y2, hy2⟩ : ∃ y2, y2 = t + m2 := ⟨_, rfl⟩
      rw [← hz, ← ht2] at R2 H2
      have W2 : Hid ((u : Int) - (m2 : Int) = (z : Int) ∧ IntKind.i64.wrap (z : Int) = (z : Int) ∧ (t : Int) + (m2 : Int) = (y2 : Int) ∧ IntKind.i64.wrap (y2 : Int) = (y2 : Int) ∧ Int.tmod (y2 : Int) (S : Int) = (t2 : Int) ∧ ¬ (S : Int) = 0 ∧ IntKind.i64.wrap (t2 : Int) = (t2 : Int)) := by
        have q1 := HR.out.lo
        have q2 := HR.out.hi
        have q3 := HR.out.tail
        have q4 := HR.out.used
        have q5 := mS.out
        have q7 := R2.out.tail
        refine ⟨by omega, (wrap_in (by omega) (by omega)).1, by omega, (wrap_in (by omega) (by omega)).1, ?_, by omega, (wrap_in (by omega) (by omega)).1⟩
        rw [ht2, hy2]
        rfl
      have HZ := Lib.hid hz
      have HT2 := Lib.hid ht2
      have HY2 := Lib.hid hy2
      have TL := Lib.hid (fun w' (c : Chg [] w12 w') => tail_any R2.out w' ((H2.out.quiet c).get 0 rfl))
      have H3 := Lib.hid (fun w' (c : Chg [] w12 w') => H2.out.quiet c)
      clear hz ht2 hy2 H
      go_upto_region 28 with fail
      go_cut [232] from 190 to 231 (fun s232 wx => s232 = .bool false ∧ wx = w12)
      case first =>
        rcases gv.out with ⟨t1, rfl, rfl⟩ | ⟨t0, t1, rfl, rfl⟩ | ⟨rfl, t1, rfl⟩
        · have g1 : ((0 : Int) == x) = false := by simp; omega
          have g2 : ¬ (0 : Int) ≤ x := by omega
          clear t1 mS
          go_wp2_with fail
          go_meet
          exact ⟨rfl, rfl⟩
        · have g1 : ((0 : Int) == x) = false := by simp; omega
          have g3 : ¬ x ≤ (u : Int) := by omega
          clear t1 mS
          go_wp2_with fail
          go_meet
          exact ⟨rfl, rfl⟩
        · have g2 : (0 : Int) ≤ (m2 : Int) := Int.natCast_nonneg _
          have g3 : (m2 : Int) ≤ (u : Int) := by omega
          clear t1 mS
          go_wp2_with fail
          go_meet
          exact ⟨rfl, rfl⟩
      case rest =>
        obtain ⟨rfl, rfl⟩ := hcut
        clear mS
        obtain ⟨e1, e2, e4, e5, e7, e8, e9⟩ := W2.out
        have wk1 := WK.out.1
        have e10 : ¬ S = 0 := by have := HS.out; omega
        go_wp2_with fail
        go_region_held3 (fun _ : World => True) (exact trivial) (first
          | (go_at_call 15; refine (TL.out _ ((Chg.refl _ _).drewN 1)).mono ?_; rintro e w13 ⟨rfl, C⟩))
        all_goals (try go_wp2_with fail)
        all_goals clear e1 e2 e4 e5 e7 e8 e9 wk1
        all_goals exact ⟨⟨k + 1, t2, z, by have := HLT.out; omega, rfl, rfl, R2, H3.out _ (((Chg.refl _ _).drewN 1).trans C.out)⟩, by have := HLT.out; simp [intOf]; omega⟩
    · clear TK tk kc GV gv
      · have H2 : Hid (Side W w9 [ringT R S t u]) := ((((H.out.front 2).sub (us := [ringT R S t u]) (by simp [front]))))
        have wk1 := WK.out.1
        clear H
        all_goals (try go_wp2_with fail)
        all_goals clear e1 e2 e4 e5 e7 e8 e9 wk1
        all_goals exact ⟨⟨k + 1, t, u, by have := HLT.out; omega, rfl, rfl, HR, H2⟩, by have := HLT.out; simp [intOf]; omega⟩

theorem ringGoes_walk (s t u : Int) (v : Value) (ds : List ROpD) (W : World) (hd : ROps W v ds) : Calls Try.prog 4 #[.int .i64 s, .int .i64 t, .int .i64 u, v] W (Holds W) := by
  by_cases hn : 20000 < ds.length
  · obtain ⟨ao, c, rfl⟩ := hd.slice
    exact ringGoes_much s t u ao _ c hn W
  · rcases new_any s t u with ⟨S, T, U, h, rfl, rfl, rfl⟩ | ⟨_, h⟩
    · exact ringGoes_ok h v ds W hd hn
    · obtain ⟨ao, c, rfl⟩ := hd.slice
      exact ringGoes_no s t u ao _ c hn W h

end Go.Proofs.Ytkkjhlihionlkaa
