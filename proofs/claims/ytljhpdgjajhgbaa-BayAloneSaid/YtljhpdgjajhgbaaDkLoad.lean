/-
  The program's disk: Load. By an AI agent.
-/
import Derived.Test.YtljhpdgjajhgbaaDkSettle
import Derived.StillTailTactics
namespace Go.Proofs.Ytljhpdgjajhgbaa
open Go.RowKit Go.Maps

/-- A disk into which the first k sectors have been laid. -/
def laid (n : Nat) (b : List Nat) (k : Nat) : Dk := ⟨(secs n b).take k ++ List.replicate (n - k) (List.replicate 128 0), [], false⟩

theorem laid_zero (n : Nat) (b : List Nat) : laid n b 0 = Dk.new n := by
  unfold laid Dk.new
  rw [List.take_zero, List.nil_append, Nat.sub_zero]

theorem laid_all (n : Nat) (b : List Nat) (h : b.length = 128 * n) : laid n b n = Dk.load b := by
  unfold laid Dk.load
  rw [show b.length / 128 = n by omega, List.take_of_length_le (by rw [secs_length]; exact Nat.le_refl _), Nat.sub_self, List.replicate_zero, List.append_nil]

theorem laid_len (n : Nat) (b : List Nat) {k : Nat} (h : k ≤ n) : (laid n b k).last.length = n := by
  unfold laid
  rw [List.length_append, List.length_take, secs_length, List.length_replicate]
  omega

theorem secs_cut {n : Nat} {b : List Nat} (h : b.length = 128 * n) (hb : Bs b) {k : Nat} (hk : k < n) : (secs n b)[k]? = some ((b.drop (128 * k)).take 128) := by
  have h1 := Dk.flat_cut (l := secs n b) (fun s hs => (secs_sec n b h hb s hs).1) (k := k) (by rw [secs_length]; exact hk)
  rw [secs_flat n b h] at h1
  rw [h1, List.getD_eq_getElem?_getD, List.getElem?_eq_getElem (by rw [secs_length]; exact hk)]
  rfl

theorem laid_next {n : Nat} {b : List Nat} (h : b.length = 128 * n) (hb : Bs b) {k : Nat} (hk : k < n) : laid n b (k + 1) = { laid n b k with last := Dk.lay (laid n b k).last (k, (b.drop (128 * k)).take 128) } := by
  have hc := secs_cut h hb hk
  unfold laid Dk.lay
  generalize List.replicate 128 0 = z
  congr 1
  have hl : ((secs n b).take k).length = k := by rw [List.length_take, secs_length]; omega
  rw [take_snoc hc, List.set_append_right _ _ (by omega), hl, Nat.sub_self, show n - k = (n - (k + 1)) + 1 by omega, List.replicate_succ, List.set_cons_zero, List.append_assoc]
  rfl

theorem wpList_copyb {P : Program} {w : World} {ops : Array Oper} {rest : List Oper} {o : Oper} {a : Act} {Q : Exit → Act → World → Prop} (hgd : o.guard = none) (d s : Operand) (dT sT : TypeId)
    (ho : o.op = .call { callee := .builtin .copy, args := #[d, s], argTypes := #[dT, sT] }) (elem : TypeId) (hu : P.underlying dT = some (.slice elem)) (hsz : (P.info? elem).map (·.size) = some 1)
    (ad : Addr) (dLen dCap sLen sCap : Nat) (g off : Nat) (hd : a.eval d = .slice (some ⟨g, off, none⟩) dLen dCap) (hs : a.eval s = .slice (some ad) sLen sCap)
    (cur : List Value) (t : TypeId) (hg : Blk w g t cur) (cs : List Value) (hn : cs.length = Nat.min sLen dLen)
    (hpos : ∀ j v, cs[j]? = some v → w.cell? (ad.add j) = some v)
    (hfit : off + cs.length ≤ cur.length) (h1 : ∀ v ∈ cs, v.oneCell' = true)
    (h : ∀ w', Hid (Blk w' g t (lay cur off cs)) → Hid (Chg [g] w w') → wpList P ops Q rest (a.put o.dst (goInt cs.length)) w') :
    wpList P ops Q (o :: rest) a w :=
  wpList_copy_blk hgd d s dT sT ho elem hu hsz _ _ dLen dCap sLen sCap hd hs g off cur t hg cs hn (fun _ => ⟨rfl, ad, rfl, hpos⟩) hfit h1 h

theorem u8_size : (Try.prog.info? 5).map (·.size) = some 1 := by kernel_rfl

set_option maxHeartbeats 2000000 in
set_option maxRecDepth 100000 in
theorem dload_aux (v : Value) (xs : List Int) (w : World) (hv : Sl w v xs) (hby : By xs) (hb : xs.length ≤ 140737488355328) (hcap : ∀ ao n c, v = .slice ao n c → n ≤ c) (ok : Prop) (OK : Hid (ok ↔ ∃ n, xs.length = 128 * n ∧ 1 ≤ n ∧ n ≤ 8192)) : Calls Try.prog 59 #[v] w (DNewed w ok (Dk.load (nats xs))) := by
  obtain ⟨vo, vc, rfl⟩ := hv.slice
  by_cases hm0 : xs.length % 128 = 0
  · obtain ⟨n, hn⟩ : ∃ n, xs.length = 128 * n := ⟨xs.length / 128, by omega⟩
    have hm : Int.tmod (xs.length : Int) 128 = 0 := by
      rw [hn, show ((128 * n : Nat) : Int) = 128 * (n : Int) by omega, Int.mul_tmod_right]
    have hd : Int.tdiv (xs.length : Int) 128 = (n : Int) := by
      rw [hn, Int.tdiv_eq_ediv_of_nonneg (by omega)]
      omega
    have NW := Lib.hid (dnew_any (n : Int) w (by omega))
    by_cases hok : 1 ≤ n ∧ n ≤ 8192
    · have HO : Hid ok := OK.out.2 ⟨n, hn, hok⟩
      obtain ⟨hn1, hn2⟩ := hok
      have FL := Lib.hid (Dk.Fit.load (b := nats xs) (n := n) (by rw [nats_length]; exact hn) hn1 hn2 (nats_bs hby))
      obtain ⟨vb, vf, hvo, hvb, hvc⟩ : ∃ vb vf, vo = some ⟨vb, vf, none⟩ ∧ vb < w.heap.size ∧ ∀ j, j < xs.length → w.cell? ⟨vb, vf + j, none⟩ = some (.int .u8 (xs.getD j 0)) := by
        rcases hv with ⟨h0, _⟩ | ⟨b, o, c, q1, q2, q3⟩
        · rw [h0] at hn
          have : (0 : Nat) = 128 * n := hn
          omega
        · obtain ⟨q4, _⟩ : vo = some ⟨b, o, none⟩ ∧ vc = c := by simpa using q1
          exact ⟨b, o, q4, q2, q3⟩
      subst hvo
      have hvl := hcap _ _ _ rfl
      have V := Lib.hid hvc
      have BY := Lib.hid hby
      have HN := Lib.hid hn
      have hlen : ¬ (xs.length : Int) < 0 := by omega
      clear OK hv hm0
      go_enter Try.func59, Try.ntmps59
      replace hn := Lib.hid hn
      go_wp2_with fail
      refine NW.out.mono ?_
      rintro e w1 (⟨hno, _⟩ | ⟨_, g, F, rfl, HT, HF, HC⟩)
      · exact absurd ⟨by omega, by omega⟩ hno
      rw [Int.toNat_natCast] at HT
      have hDI : DiskIn w1 g F (Dk.new n) := HT.out
      obtain ⟨gd, mb, cv, r⟩ := hDI.rep
      have HLT := Lib.hid hDI.lt
      have R0 : Hid (DRep w1 g F (laid n (nats xs) 0) gd mb cv ∧ (laid n (nats xs) 0).Fit) := by rw [laid_zero]; exact ⟨r, hDI.fit⟩
      have c0 : w1.cell? ⟨g, 0, none⟩ = some (.slice (some ⟨gd, 0, none⟩) n n) := by
        have := r.blk.cell (j := 0) rfl
        rw [show (Dk.new n).last.length = n by simp [Dk.new]] at this
        exact this
      have DF := Lib.hid r.dF
      clear HT NW hDI r
      go_wp2_with fail
      go_loopw [26] (fun i wr => ∃ k : Nat, k ≤ n ∧ i = .int .i64 k ∧ Hid (DRep wr g F (laid n (nats xs) k) gd mb cv ∧ (laid n (nats xs) k).Fit) ∧ Hid (Chg [gd] w1 wr)) (fun i _ => n - (intOf i).toNat)
      case atStart => exact ⟨0, Nat.zero_le _, rfl, R0, Chg.refl _ _⟩
      case round =>
        obtain ⟨k, hk, rfl, R, C⟩ := hrel
        clear R0 c0
        have hk0 : (0 : Int) ≤ k := Int.natCast_nonneg _
        have c0 : wr.cell? ⟨g, 0, none⟩ = some (.slice (some ⟨gd, 0, none⟩) n n) := by
          have := R.out.1.blk.cell (j := 0) rfl
          rw [laid_len n _ hk] at this
          exact this
        by_cases hlt : k < n
        · have hk1 : (k : Int) < n := by omega
          obtain ⟨L, hL⟩ : ∃ L, L = xs.length := ⟨_, rfl⟩
          obtain ⟨P, hP⟩ : ∃ P : Nat, (k : Int) * 128 = (P : Int) := ⟨k * 128, by omega⟩
          have hq1 : P = 128 * k := by omega
          have hq2 : P + 128 ≤ L := by have := HN.out; omega
          have hq3 : (P : Int) ≤ L := by omega
          have hq4 : (0 : Int) ≤ P := by omega
          have hq5 : ¬ vc = P := by omega
          have hq6 : P ≤ vc := by omega
          have hq7 : P ≤ L := by omega
          have hw1 : IntKind.i64.wrap (P : Int) = (P : Int) := by rw [IntKind.wrap_i64]; omega
          have hw2 : wrap64 (P : Int) = (P : Int) := by unfold wrap64; omega
          have LN := Lib.hid (laid_next (n := n) (b := nats xs) (by rw [nats_length]; exact HN.out) (nats_bs BY.out) hlt)
          have hsl : (((nats xs).drop (128 * k)).take 128).length = 128 := by rw [List.length_take, List.length_drop, nats_length]; omega
          have SB : Hid ((((nats xs).drop (128 * k)).take 128).length = 128 ∧ Bs (((nats xs).drop (128 * k)).take 128)) := ⟨hsl, fun x hx => nats_bs BY.out x (List.mem_of_mem_drop (List.mem_of_mem_take hx))⟩
          have hcl : (bytesOf (((nats xs).drop (128 * k)).take 128)).length = 128 := by rw [bytesOf_length, hsl]
          have hmin : (bytesOf (((nats xs).drop (128 * k)).take 128)).length = Nat.min (L - P) 128 := by
            rw [hcl]
            exact (Nat.min_eq_right (by omega)).symm
          have hpos : ∀ j u, (bytesOf (((nats xs).drop (128 * k)).take 128))[j]? = some u → wr.drew.cell? ((⟨vb, vf + P, none⟩ : Addr).add j) = some u := fun j u hj => by
            have hjl := (List.getElem?_eq_some_iff.1 hj).1
            rw [hcl] at hjl
            have hne : vb ∉ [gd] := fun hm => by
              have h1 := HF.out gd DF.out.1
              have h2 := List.mem_singleton.1 hm
              omega
            have hz := HC.out.size
            have hb1 : vb < w1.heap.size := by omega
            rw [Addr.add_lit]
            show wr.cell? ⟨vb, vf + P + j, none⟩ = some u
            rw [show vf + P + j = vf + (P + j) by omega, C.out.cell (p := ⟨vb, vf + (P + j), none⟩) hb1 hne, HC.out.cell (p := ⟨vb, vf + (P + j), none⟩) hvb (by simp), V.out (P + j) (by omega)]
            rw [← hj]
            unfold bytesOf
            rw [show ints (List.take 128 (List.drop (128 * k) (nats xs))) = ((ints (nats xs)).drop (128 * k)).take 128 by unfold ints; rw [List.map_take, List.map_drop], ints_nats BY.out, List.getElem?_map, List.getElem?_take_of_lt hjl, List.getElem?_drop, ← hq1, List.getElem?_eq_getElem (by omega)]
            simp [List.getD, show P + j < xs.length by omega]
          have hfit : k * 128 + (bytesOf (((nats xs).drop (128 * k)).take 128)).length ≤ (bytesOf (laid n (nats xs) k).last.flatten).length := by
            rw [hcl, bytesOf_length, R.out.2.flatLen, laid_len n _ hk]
            omega
          generalize ((nats xs).drop (128 * k)).take 128 = sb at *
          rw [← hL]
          replace hL := Lib.hid hL
          replace hmin := Lib.hid hmin
          replace hpos := Lib.hid hpos
          replace hfit := Lib.hid hfit
          replace hq1 := Lib.hid hq1
          clear hsl hcl
          go_wp2_with fail
          go_still_tail 11, (by kernel_rfl)
          change wpList _ _ _ _ _ wr.drew
          have BD : Blk wr.drew gd 84 (bytesOf (laid n (nats xs) k).last.flatten) := R.out.1.dur.drew
          refine wpList_copyb rfl (.tmp 35) (.tmp 39) 26 26 rfl 5 Try.underlying26 u8_size ⟨vb, vf + P, none⟩ 128 128 (L - P) (vc - P) gd (k * 128) rfl rfl _ 84 BD (bytesOf sb) hmin.out hpos.out hfit.out (bytesOf_one sb) ?_
          intro w5 B5 C5
          have R5 : Hid (DRep w5 g F (laid n (nats xs) (k + 1)) gd mb cv ∧ (laid n (nats xs) (k + 1)).Fit) := by
            rw [LN.out]
            exact ⟨R.out.1.put R.out.2 (by rw [laid_len n _ hk]; exact hlt) SB.out.1 B5.out ((Chg.refl _ _).drew.trans C5.out), fit_lay R.out.2 SB.out⟩
          have CW : Hid (Chg [gd] w1 w5) := C.out.drew.trans C5.out
          clear BD B5 C5 R C c0
          go_wp2_with fail
          exact ⟨⟨k + 1, by omega, by go_num, R5, CW⟩, by simp [intOf]; omega⟩
        · obtain rfl : k = n := by omega
          have T : Hid (DiskIn wr g F (Dk.load (nats xs))) := by
            have h1 := R.out
            rw [laid_all k (nats xs) (by rw [nats_length]; exact HN.out)] at h1
            exact ⟨fun j hj => Nat.lt_of_lt_of_le (HLT.out j hj) C.out.size, h1.2, gd, mb, cv, h1.1⟩
          have CW : Hid (Chg [] w wr) := HC.out.fresh C.out (fun j hj => .inr (by rw [List.mem_singleton.1 hj]; exact HF.out gd DF.out.1))
          clear R C c0
          go_wp2_with fail
          go_ret2
          exact .inr ⟨HO.out, g, F, rfl, T.out, HF.out, CW.out⟩
    · have HO : Hid (¬ ok) := fun h => by
        obtain ⟨m, h1, h2⟩ := OK.out.1 h
        exact hok (by omega)
      have hok2 : Hid (¬ (1 ≤ (n : Int) ∧ (n : Int) ≤ 8192)) := fun h => hok ⟨by omega, by omega⟩
      have hw9 : wrap64 (n : Int) = (n : Int) := by unfold wrap64; omega
      clear OK hv hm0 hok
      replace hn := Lib.hid hn
      go_enter Try.func59, Try.ntmps59
      go_wp2_with fail
      refine NW.out.mono ?_
      rintro e w1 (⟨_, rfl, HC⟩ | ⟨hyes, _⟩)
      · clear NW
        go_wp2_with fail
        go_ret2
        exact .inl ⟨HO.out, rfl, HC⟩
      · exact absurd hyes hok2.out
  · have HO : Hid (¬ ok) := fun h => by
      obtain ⟨m, h1, _⟩ := OK.out.1 h
      omega
    have hm : ((xs.length : Int) % 128 != 0) = true := bne_iff_ne.2 (by omega)
    clear OK hv hm0
    go_enter Try.func59, Try.ntmps59
    go_wp2_with fail
    go_ret2
    exact .inl ⟨HO.out, rfl, Chg.refl _ _⟩

theorem dload_any (v : Value) (xs : List Int) (w : World) (hv : Sl w v xs) (hby : By xs) (hb : xs.length ≤ 140737488355328) (hcap : ∀ ao n c, v = .slice ao n c → n ≤ c) :
    Calls Try.prog 59 #[v] w (DNewed w (∃ n, xs.length = 128 * n ∧ 1 ≤ n ∧ n ≤ 8192) (Dk.load (nats xs))) := dload_aux v xs w hv hby hb hcap _ Iff.rfl

end Go.Proofs.Ytljhpdgjajhgbaa
