/-
  What 'known' of the journal comes to, step by step. By an AI agent.
-/
import Derived.Test.YtkafkdlgflkjgaaGreatBWlUp
import Derived.Test.YtkafkdlgflkjgaaGreatBG
namespace Go.Proofs.YtkafkdlgflkjgaaGreat
open Crc
namespace Wl

def ky0 : Bay := Bay.new [12]
def kf : Io := fmtIo ky0 0 10 1
def kJ : Jn := begun 0 10 ⟨1, 1, 0⟩ 0 1
def ko1 : Out := logJ kf.1 kJ 0 [p5]
def ko2 : Out := sealJ ko1.bay ko1.jn
def ky4 : Bay := ko2.bay.cut [[true]]
def kr : Io × List Nat := rds 0 (rd 0 (ky4, 0) 1) 10

theorem ky0_up : ky0.Up 0 (Dk.new 12) := ⟨rfl, rfl, rfl, rfl⟩

theorem kn_open {y : Bay} {d : Dk} (u4 : y.Up 0 d) (hlen : d.last.length = 12) (n1 : d.now 1 = Ck.enc ck1) (n2 : d.now 2 = Sc.hsec 1 1 [p5] 0) (n3 : d.now 3 = escV (Sc.at' [p5] 0).bs) (n4 : d.now 4 = commitOf kJ [p5]) (nz : ∀ p, 3 ≤ p → p < 10 → d.now (2 + p) = Sc.zeros) :
 (rd 0 (y, 0) 1).2 = 0 ∧ rdV 0 (y, 0) 1 = Ck.enc ck1 ∧ (rds 0 (rd 0 (y, 0) 1) 10).1.2 = 0 ∧ ∀ L u, Sc.Done (rds 0 (rd 0 (y, 0) 1) 10).2 1 0 1 L u → L = [[p5]] ∧ u = 3 := by
 obtain ⟨x1, x2, x3⟩ := rd_up u4 (p := 1) (by omega)
 rw [show ((1 : Nat) : Int) = 1 from rfl] at x1 x2 x3
 obtain ⟨y1, y2, y3⟩ := rds_up x2.up 10 (by omega)
 have hr : rd 0 (y, 0) 1 = ((rd 0 (y, 0) 1).1, 0) := Prod.ext rfl x1
 have hg : ∀ s ∈ Sc.secs 1 1 [p5], s.length = 128 ∧ Bs s := Sc.secs_ok good5
 have hS : Sc.secs 1 1 [p5] = [Sc.hsec 1 1 [p5] 0, escV (Sc.at' [p5] 0).bs, commitOf kJ [p5]] := rfl
 refine ⟨x1, by rw [x3, n1], by rw [hr]; exact y1, fun L u hD => ?_⟩
 rw [hr, y3] at hD
 refine known12 (fun p hp => ?_) (fun j s hj => ?_) (fun p hp hp2 => nz p hp hp2) hD
 ·by_cases h3 : 3 ≤ p
  ·show (d.now (2 + p)).length = 128 ∧ Bs (d.now (2 + p))
   rw [nz p h3 hp]
   exact ⟨by simp [Sc.zeros], fun x hx => by rw [(List.mem_replicate.1 hx).2]; decide⟩
  ·have : p = 0 ∨ p = 1 ∨ p = 2 := by omega
   rcases this with rfl | rfl | rfl
   ·show (d.now 2).length = 128 ∧ Bs (d.now 2)
    rw [n2]; exact hg _ (by rw [hS]; simp)
   ·show (d.now 3).length = 128 ∧ Bs (d.now 3)
    rw [n3]; exact hg _ (by rw [hS]; simp)
   ·show (d.now 4).length = 128 ∧ Bs (d.now 4)
    rw [n4]; exact hg _ (by rw [hS]; simp)
 ·rw [hS] at hj
  have h3 : j < 3 := (List.getElem?_eq_some_iff.1 hj).1
  have : j = 0 ∨ j = 1 ∨ j = 2 := by omega
  rcases this with rfl | rfl | rfl
  ·show d.now 2 = s
   rw [n2]; exact Option.some.inj hj
  ·show d.now 3 = s
   rw [n3]; exact Option.some.inj hj
  ·show d.now 4 = s
   rw [n4]; exact Option.some.inj hj

structure Kn : Prop where
 f0 : kf.2 = 0
 cnt : kf.1.reads = 0 ∧ kf.1.writes = 11 ∧ kf.1.flushes = 1
 e1 : ko1.err = 0
 j1 : ko1.jn = logged kJ [p5]
 e2 : ko2.err = 0
 j2 : ko2.jn = sealed (logged kJ [p5])
 fitJ : kJ.Fit
 fit1 : ko1.jn.Fit
 r1 : (rd 0 (ky4, 0) 1).2 = 0
 v1 : rdV 0 (ky4, 0) 1 = Ck.enc ck1
 r2 : kr.1.2 = 0
 done : ∀ L u, Sc.Done kr.2 1 0 1 L u → L = [[p5]] ∧ u = 3
 low1 : kf.1.Low 1000
 low2 : ko1.bay.Low 1000
 low3 : ko2.bay.Low 1000

theorem kn : Kn := by
 obtain ⟨d1, f0, w1, ok1, hd1⟩ := fmt_up (s := 0) (d := Dk.new 12) (B := 1) (n := 10) (ep := 1) ky0_up (by decide) (by decide) (by decide) (by decide) ⟨by decide, by decide⟩
 obtain ⟨q1, q2, q3, q4⟩ := fresh_at (n := 10) (ep := 1) rfl hd1
 obtain ⟨d2, e1, j1, ok2, w2, hd2⟩ := Ok.log (J := kJ) ok1 good5 (by decide)
 have okL := ok2
 rcases Ok.sealing ok2 with ⟨hc, _⟩ | ⟨c, d3, hc, e2, j2, ok3, w3, hd3⟩
 ·cases hc
 have hj1 : ko1.jn = logged kJ [p5] := j1
 have hb2 : sealJ ko1.bay ko1.jn = sealJ (logJ (fmtIo ky0 0 10 1).1 kJ 0 [p5]).bay (logged kJ [p5]) := by rw [hj1]; rfl
 have hcome : (ko2.bay.slots[(0 : Int).toNat]?).bind (·.coming) = none := by
  have h1 := w3.come
  have h2 := w2.come
  have h3 := w1.come
  have h0 : (ky0.slots[(0 : Int).toNat]?).bind (·.coming) = none := rfl
  have e : ko2.bay = (sealJ (logJ (fmtIo ky0 0 10 1).1 kJ 0 [p5]).bay (logged kJ [p5])).bay := by show (sealJ ko1.bay ko1.jn).bay = _; rw [hb2]
  rw [e]
  exact (h1.trans (h2.trans h3)).trans h0
 have hup3 : ko2.bay.Up 0 d3 := by
  have e : ko2.bay = (sealJ (logJ (fmtIo ky0 0 10 1).1 kJ 0 [p5]).bay (logged kJ [p5])).bay := by show (sealJ ko1.bay ko1.jn).bay = _; rw [hb2]
  rw [e]
  exact w3.up
 obtain ⟨u4, _⟩ := up_cut hup3 hcome [[true]]
 obtain ⟨d4, hd4⟩ : ∃ d4 : Dk, d4 = { d3 with last := (Dk.kept ([[true]].getD (0 : Int).toNat []) 0 d3.cache).foldl Dk.lay d3.last, cache := [] } := ⟨_, rfl⟩
 rw [← hd4] at u4
 have hcm : c = commitOf kJ [p5] := (Option.some.inj hc).symm
 have hS : Sc.secs 1 1 [p5] = [Sc.hsec 1 1 [p5] 0, escV (Sc.at' [p5] 0).bs, commitOf kJ [p5]] := rfl
 have hc2 : d2.cache = [] := by rw [hd2]
 have hl3 : d3.cache = [(4, c)] := by rw [hd3]; show d2.cache ++ [(kJ.place _, c)] = _; rw [hc2]; rfl
 have hl2 : d2.last = Dk.lay (Dk.lay d1.last (2, Sc.hsec 1 1 [p5] 0)) (3, escV (Sc.at' [p5] 0).bs) := by
  rw [hd2]
  show (d1.cache ++ kJ.puts (body kJ [p5])).foldl Dk.lay d1.last = _
  rw [q4]
  rfl
 have hl4 : d4.last = Dk.lay (Dk.lay (Dk.lay d1.last (2, Sc.hsec 1 1 [p5] 0)) (3, escV (Sc.at' [p5] 0).bs)) (4, c) := by
  rw [hd4]
  show (Dk.kept [true] 0 d3.cache).foldl Dk.lay d3.last = _
  rw [hl3, hd3]
  show Dk.lay d2.last (4, c) = _
  rw [hl2]
 obtain ⟨n1, n2, n3, n4, nz⟩ := known_ring q1 q2 q3 hl4 (by rw [hd4])
 have hlen4 : d4.last.length = 12 := by rw [hl4]; unfold Dk.lay; simp [q3]
 obtain ⟨z1, z2, z3, z4⟩ := kn_open u4 hlen4 n1 n2 n3 (by rw [n4, hcm]) nz
 refine ⟨f0, ⟨by unfold kf; exact w1.reads, by unfold kf; exact w1.writes, by unfold kf; exact w1.flushes⟩, e1, j1, by show (sealJ ko1.bay ko1.jn).err = 0; rw [hb2]; exact e2, by show (sealJ ko1.bay ko1.jn).jn = _; rw [hb2]; exact j2, ok1.fit (by decide), by rw [hj1]; exact ok2.fit (by decide), z1, z2, z3, z4, ?_, ?_, ?_⟩
 ·exact (fmtIo_low (Bay.new_low [12]) 0 10 1).mono (by decide)
 ·exact (logJ_low (fmtIo_low (Bay.new_low [12]) 0 10 1) kJ 0 [p5]).mono (by decide)
 ·exact (sealJ_low (logJ_low (fmtIo_low (Bay.new_low [12]) 0 10 1) kJ 0 [p5]) ko1.jn).mono (by decide)

end Wl
end Go.Proofs.YtkafkdlgflkjgaaGreat
